/- One number, packed alone. -/
import Derived.Test.YtokkbfffkligbaaRef03Dec
namespace Go.Proofs.Ytokkbfffkligbaa
open Go.RowKit

theorem Pk.one_lt (n : Nat) (hn : n < 18446744073709551616) (j : Nat) : [n].getD j 0 < 18446744073709551616 := by
  match j with
  | 0 => exact hn
  | j + 1 => exact Nat.lt_of_le_of_lt (Nat.le_refl 0) (by decide)
theorem Pk.one_ok (k : Nat) (h1 : 1 ≤ k) (h8 : k ≤ 8) : Pk.okW [(k : Int)] = true := by
  refine Pk.okW_of (by simp) fun j hj => ?_
  have : j = 0 := by simpa using hj
  subst this
  show 1 ≤ (k : Int) ∧ (k : Int) ≤ 8
  omega
theorem Pk.one_fit (n : Nat) (x : Int) : Pk.fitAll [n] [x] = Pk.fits n x := by
  cases e : Pk.fits n x with
  | true =>
    refine (Pk.fitAll_iff _ _).2 fun j hj => ?_
    have : j = 0 := by simpa using hj
    subst this; exact e
  | false => exact Pk.fitAll_not (j := 0) (by simp) e
theorem Pk.one_enc (n k : Nat) (h1 : 1 ≤ k) (h8 : k ≤ 8) (hf : Pk.fits n k = true) : Pk.enc [n] [(k : Int)] = Pk.bytesOf n k := by
  rw [Pk.enc_yes (Pk.one_ok k h1 h8) rfl (by rw [Pk.one_fit]; exact hf)]
  simp [Pk.encP, Pk.bytesOf, Pk.wd, List.range_succ]
theorem Pk.one_size (n k : Nat) (h1 : 1 ≤ k) (h8 : k ≤ 8) (hf : Pk.fits n k = true) : (Pk.encS [n] [(k : Int)]).size = k := by
  show (Pk.enc [n] [(k : Int)]).toArray.size = k
  rw [Pk.one_enc n k h1 h8 hf, List.size_toArray, Pk.bytesOf_length]
theorem Encode_one (n : Nat) (hn : n < 18446744073709551616) (x : Int) (w : World) :
    Calls Try.prog 10 #[.slice (some ⟨w.heap.size, 0, none⟩) 1 1, .slice (some ⟨w.heap.size + 1, 0, none⟩) 1 1] ((w.alloc (.cells #[.int .u64 n] 24)).alloc (.cells #[.int .i64 x] 3))
      fun e w' => e = .returned (.tuple #[.string (Pk.encS [n] [x]), .int .i64 (Pk.encE [n] [x])]) ∧ Below w.heap.size w w' := by
  refine (Encode_any [n] [x] (Nat.le_trans (Nat.le_refl 1) (by decide)) (Nat.le_trans (Nat.le_refl 1) (by decide)) (Pk.one_lt n hn) _ _ _ _ _ ((RowI.newN .u64 w [n] _ 24 rfl).below ((Below.refl _ _).alloc (Nat.le_refl _) _)) (by have h := RowI.new .i64 (w.alloc (.cells #[.int .u64 n] 24)) [x] _ 3 rfl; rw [World.size_alloc] at h; exact h)).mono ?_
  rintro e w1 ⟨rfl, hb⟩
  exact ⟨rfl, (((Below.refl _ w).alloc (Nat.le_refl _) _).alloc (by simp) _).trans (hb.mono (by simp <;> omega))⟩
end Go.Proofs.Ytokkbfffkligbaa
