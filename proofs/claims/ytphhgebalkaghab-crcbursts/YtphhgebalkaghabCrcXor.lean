/- Checksums of texts of which some bits within 32 are others, in plain lists. Nothing of the program stands here. -/
import Derived.Test.YtphhgebalkaghabCrcMath
import Derived.Test.YtphhgebalkaghabGfBytes
namespace Go.Proofs.Ytphhgebalkaghab.Crc
theorem run_xor (x y : Nat) (a b : List UInt8) (h : a.length = b.length) : run (x ^^^ y) (Gfm.xorL a b) = run x a ^^^ run y b := by
  induction a generalizing x y b with
  | nil =>
    have hb : b = [] := List.length_eq_zero_iff.1 h.symm
    subst hb; rfl
  | cons c a ih =>
    cases b with
    | nil => simp at h
    | cons d b =>
      rw [Gfm.xorL_cons, run_cons, run_cons, run_cons, UInt8.toNat_xor, xcomm4, shN_xor]
      exact ih _ _ b (by simpa using h)
theorem run_zeros (r x : Nat) : run x (List.replicate r 0) = shN (8 * r) x := by
  induction r generalizing x with
  | zero => rfl
  | succ r ih =>
    rw [List.replicate_succ, run_cons, ih, ← shN_add]
    have : (0 : UInt8).toNat = 0 := rfl
    rw [this, Nat.xor_zero, show 8 + 8 * r = 8 * (r + 1) from by omega]
theorem four_step (Y u : Nat) : shN 8 ((Y ^^^ u) ^^^ u % 256) = shN 8 Y ^^^ u / 256 := by
  have e : u ^^^ u % 256 = 2 ^ 8 * (u / 2 ^ 8) := by
    have h := split_xor 8 u
    have h2 : (2 ^ 8 * (u / 2 ^ 8) ^^^ u % 2 ^ 8) ^^^ u % 2 ^ 8 = u ^^^ u % 2 ^ 8 := by rw [h]
    rw [Nat.xor_assoc, Nat.xor_self, Nat.xor_zero] at h2
    exact h2.symm
  rw [Nat.xor_assoc, e, shN_xor, shN_pow]
theorem byte_of (x : Nat) : (UInt8.ofNat (x % 256)).toNat = x % 256 := by rw [UInt8.toNat_ofNat']; omega
theorem run_four (A v : Nat) (hv : v < 4294967296) : run A (fourL v) = shN 32 (A ^^^ v) := by
  have d2 : v / 65536 = v / 256 / 256 := by rw [Nat.div_div_eq_div_mul]
  have d3 : v / 16777216 = v / 256 / 256 / 256 := by rw [Nat.div_div_eq_div_mul, Nat.div_div_eq_div_mul]
  have d4 : v / 256 / 256 / 256 / 256 = 0 := by omega
  unfold fourL
  rw [run_cons, run_cons, run_cons, run_cons, byte_of, byte_of, byte_of, byte_of, d2, d3]
  show shN 8 _ = _
  have h0 : A ^^^ v % 256 = ((A ^^^ v) ^^^ v) ^^^ v % 256 := by rw [Nat.xor_assoc A v v, Nat.xor_self, Nat.xor_zero]
  rw [h0, four_step, four_step, four_step, four_step, d4, Nat.xor_zero, ← shN_add, ← shN_add, ← shN_add]
/-- what is opened comes to one number -/
theorem run_opens (l : List UInt8) (h : opens l = true) : run (neg 0) l = shN 32 4294967295 := by
  unfold opens at h
  rw [Bool.and_eq_true, decide_eq_true_eq, beq_iff_eq] at h
  obtain ⟨h4, h⟩ := h
  have e : l = l.take (l.length - 4) ++ fourL (more 0 (l.take (l.length - 4))) := by rw [← h, List.take_append_drop]
  generalize l.take (l.length - 4) = a at *
  have hl := run_lt (neg_lt 0) a
  rw [e, run_append, run_four _ _ (more_lt _ _)]
  congr 1
  unfold more
  rw [← not_xor' _ hl]
  have : ∀ X : Nat, X ^^^ (4294967295 ^^^ X) = 4294967295 := fun X => by rw [Nat.xor_comm 4294967295 X, ← Nat.xor_assoc, Nat.xor_self, Nat.zero_xor]
  exact this _
/-- bytes of which some bits within 32 are others are not opened -/
theorem burst (t : List UInt8) (i r by_ : Nat) (hl : t.length = i + 4 + r) (hb : by_ < 4294967296) (h0 : by_ ≠ 0) (ht : opens t = true) :
    opens (Gfm.xorL t (List.replicate i 0 ++ fourL by_ ++ List.replicate r 0)) = false := by
  apply Bool.eq_false_iff.2
  intro h
  have h1 := run_opens _ h
  have h2 := run_opens _ ht
  have hx : run (neg 0 ^^^ 0) (Gfm.xorL t (List.replicate i 0 ++ fourL by_ ++ List.replicate r 0)) = run (neg 0) t ^^^ run 0 (List.replicate i 0 ++ fourL by_ ++ List.replicate r 0) :=
    run_xor _ _ _ _ (by rw [List.length_append, List.length_append, List.length_replicate, List.length_replicate, fourL_length]; omega)
  rw [Nat.xor_zero, h1, h2] at hx
  have h3 : run 0 (List.replicate i 0 ++ fourL by_ ++ List.replicate r 0) = 0 := by
    have := congrArg (fun z => shN 32 4294967295 ^^^ z) hx
    simp only [← Nat.xor_assoc, Nat.xor_self, Nat.zero_xor] at this
    exact this.symm
  rw [run_append, run_append, run_zeros i 0, shN_zero, run_four _ _ hb, Nat.zero_xor, run_zeros r, ← shN_add] at h3
  exact shN_ne _ hb h0 h3
/-- bytes 0 added change nothing -/
theorem xor_pad (a b : List UInt8) (r : Nat) (h : b.length + r ≤ a.length) : Gfm.xorL a (b ++ List.replicate r 0) = Gfm.xorL a b := by
  apply Gfm.list_ext
  · rw [Gfm.xorL_length, Gfm.xorL_length]; simp; omega
  · intro j _
    rw [Gfm.xorL_getD, Gfm.xorL_getD]
    congr 1
    rw [List.getD_eq_getElem?_getD, List.getD_eq_getElem?_getD, List.getElem?_append]
    split
    · rfl
    · rename_i hj
      have e : b[j]? = none := List.getElem?_eq_none (by omega)
      rw [e, List.getElem?_replicate]; split <;> rfl
theorem xor_zeros (a : List UInt8) (i : Nat) (h : i ≤ a.length) : Gfm.xorL a (List.replicate i 0) = a := by
  have := xor_pad a [] i (by simpa using h)
  rwa [List.nil_append, Gfm.xorL_nil] at this
end Go.Proofs.Ytphhgebalkaghab.Crc
