/- Maps of regions: the state as plain numbers (so many rows, a number's bits, how many writes are under way), and where it lies. -/
import Derived.Test.YtlhgafpidkcmcaaDoorKitMem
namespace Go.Proofs.YtlhgafpidkcmcaaDoor
open Go.RowKit

namespace In
/-- the region r among the dirty ones -/
def setB (d r : Nat) : Nat := d ||| 2 ^ r
/-- .. no more -/
def clrB (d r : Nat) : Nat := d &&& (2 ^ 64 - (2 ^ r + 1))
/-- another number at r -/
def upd (u : Nat → Nat) (r x : Nat) : Nat → Nat := fun k => if k = r then x else u k
theorem upd_same (u : Nat → Nat) (r x : Nat) : upd u r x r = x := by simp [upd]
theorem upd_other (u : Nat → Nat) {r k : Nat} (x : Nat) (h : k ≠ r) : upd u r x k = u k := by simp [upd, h]
theorem pow_lt {r : Nat} (h : r < 64) : 2 ^ r < 18446744073709551616 := Nat.lt_of_lt_of_eq (Nat.pow_lt_pow_right (by decide) h) (by decide)
theorem setB_lt {d r : Nat} (hd : d < 18446744073709551616) (hr : r < 64) : setB d r < 18446744073709551616 := Nat.or_lt_two_pow (n := 64) hd (pow_lt hr)
theorem clrB_lt {d : Nat} (r : Nat) (hd : d < 18446744073709551616) : clrB d r < 18446744073709551616 := Nat.lt_of_le_of_lt Nat.and_le_left hd
theorem setB_self (d r : Nat) : (setB d r).testBit r = true := by simp [setB]
theorem setB_other (d : Nat) {r k : Nat} (h : k ≠ r) : (setB d r).testBit k = d.testBit k := by
  simp [setB, Ne.symm h]
theorem clrB_self (d : Nat) {r : Nat} (hr : r < 64) : (clrB d r).testBit r = false := by
  unfold clrB
  rw [Nat.testBit_and, Nat.testBit_two_pow_sub_succ (Nat.pow_lt_pow_right (by decide) hr)]
  simp
theorem clrB_other (d : Nat) {r k : Nat} (hr : r < 64) (hk : k < 64) (h : k ≠ r) : (clrB d r).testBit k = d.testBit k := by
  unfold clrB
  rw [Nat.testBit_and, Nat.testBit_two_pow_sub_succ (Nat.pow_lt_pow_right (by decide) hr)]
  simp [Ne.symm h, hk]
/-- a region's bit, as the program asks it -/
theorem and_pow (d r : Nat) : d &&& 2 ^ r = if d.testBit r then 2 ^ r else 0 := by
  apply Nat.eq_of_testBit_eq
  intro i
  rw [Nat.testBit_and, Nat.testBit_two_pow]
  by_cases e : r = i
  · subst e
    cases d.testBit r <;> simp
  · cases d.testBit r <;> simp [e]
theorem and_one (d r : Nat) : (((d &&& 2 ^ r : Nat) : Int) == 0) = !d.testBit r := by
  rw [and_pow]
  have : 0 < 2 ^ r := Nat.two_pow_pos r
  cases d.testBit r with
  | false => simp
  | true =>
    simp only [if_true, Bool.not_true, beq_eq_false_iff_ne]
    omega
theorem and_none (d r : Nat) : (((d &&& 2 ^ r : Nat) : Int) != 0) = d.testBit r := by
  show (!(((d &&& 2 ^ r : Nat) : Int) == 0)) = _
  rw [and_one, Bool.not_not]
end In

theorem u64_and_nat (a b : Nat) (ha : a < 18446744073709551616) (hb : b < 18446744073709551616) : bits .and .u64 (a : Int) (b : Int) = ((a &&& b : Nat) : Int) := by
  have h : a &&& b < 2 ^ 64 := Nat.and_lt_two_pow _ hb
  have e : (BitVec.ofInt 64 (a : Int) &&& BitVec.ofInt 64 (b : Int)).toNat = a &&& b := by rw [BitVec.toNat_and, ofInt_u64 a ha, ofInt_u64 b hb]
  show IntKind.u64.wrap ((BitVec.ofInt 64 (a : Int) &&& BitVec.ofInt 64 (b : Int)).toNat : Int) = _
  rw [e, IntKind.wrap_u64]; omega
theorem u64_andNot_nat (a b : Nat) (ha : a < 18446744073709551616) (hb : b < 18446744073709551616) : bits .andNot .u64 (a : Int) (b : Int) = ((a &&& (2 ^ 64 - (b + 1)) : Nat) : Int) := by
  have h : a &&& (2 ^ 64 - (b + 1)) < 18446744073709551616 := Nat.lt_of_le_of_lt Nat.and_le_left ha
  have e : (BitVec.ofInt 64 (a : Int) &&& ~~~BitVec.ofInt 64 (b : Int)).toNat = a &&& (2 ^ 64 - (b + 1)) := by
    rw [BitVec.toNat_and, BitVec.toNat_not, ofInt_u64 a ha, ofInt_u64 b hb, Nat.sub_sub, Nat.add_comm 1 b]
  show IntKind.u64.wrap ((BitVec.ofInt 64 (a : Int) &&& ~~~BitVec.ofInt 64 (b : Int)).toNat : Int) = _
  rw [e, IntKind.wrap_u64]; omega

/-- a map of n rows, whose dirty regions are d's bits, with u r writes under way in region r -/
structure InAt (w : World) (b n d : Nat) (u : Nat → Nat) : Prop where
  c0 : w.cell? ⟨b, 0, none⟩ = some (.int .i64 (n : Int))
  c1 : w.cell? ⟨b, 1, none⟩ = some (.int .u64 (d : Int))
  cu : ∀ r, r < 64 → w.cell? ⟨b, 2 + r, none⟩ = some (.int .i64 ((u r : Nat) : Int))
  fz : ∀ j, w.frozen? ⟨b, j, none⟩ = false
theorem InAt.lt {w : World} {b n d : Nat} {u : Nat → Nat} (h : InAt w b n d u) : b < w.heap.size := World.block_lt_of_cell? w _ h.c0
theorem InAt.only {w w' : World} {b n d : Nat} {u : Nat → Nat} {F : Nat → Prop} (h : InAt w b n d u) (g : Only F w w') (hF : ¬ F b) : InAt w' b n d u := by
  have hb := g.block b h.lt hF
  exact ⟨(World.cell?_of_block (a := ⟨b, 0, none⟩) hb).trans h.c0, (World.cell?_of_block (a := ⟨b, 1, none⟩) hb).trans h.c1, fun r hr => (World.cell?_of_block (a := ⟨b, 2 + r, none⟩) hb).trans (h.cu r hr), fun j => (World.frozen?_of_block (a := ⟨b, j, none⟩) hb).trans (h.fz j)⟩
theorem InAt.below {w w' : World} {b n d : Nat} {u : Nat → Nat} (h : InAt w b n d u) (g : Below w.heap.size w w') : InAt w' b n d u := h.only (Only.of_below g (fun _ => False)) (fun hf => hf)
theorem InAt.drew {w : World} {b n d : Nat} {u : Nat → Nat} (h : InAt w b n d u) : InAt w.drew b n d u := ⟨h.c0, h.c1, h.cu, h.fz⟩
theorem InAt.setD {w : World} {b n d : Nat} {u : Nat → Nat} (h : InAt w b n d u) (d' : Nat) : InAt (w.setCell ⟨b, 1, none⟩ (.int .u64 (d' : Int))) b n d' u :=
  ⟨(World.cell?_setCell_other _ _ _ _ (fun e => by injection e with _ e2; cases e2)).trans h.c0, World.cell?_setCell_same _ _ _ h.c1,
    fun r hr => (World.cell?_setCell_other _ _ _ _ (fun e => by injection e with _ e2; omega)).trans (h.cu r hr), fun j => by rw [World.frozen?_setCell]; exact h.fz j⟩
theorem InAt.setU {w : World} {b n d : Nat} {u : Nat → Nat} (h : InAt w b n d u) {r : Nat} (hr : r < 64) (x : Nat) : InAt (w.setCell ⟨b, 2 + r, none⟩ (.int .i64 (x : Int))) b n d (In.upd u r x) :=
  ⟨(World.cell?_setCell_other _ _ _ _ (fun e => by injection e with _ e2; omega)).trans h.c0, (World.cell?_setCell_other _ _ _ _ (fun e => by injection e with _ e2; omega)).trans h.c1,
    fun k hk => by
      by_cases e : k = r
      · subst e; rw [In.upd_same]; exact World.cell?_setCell_same _ _ _ (h.cu k hk)
      · rw [In.upd_other _ _ e]; exact (World.cell?_setCell_other _ _ _ _ (fun q => by injection q with _ q2; omega)).trans (h.cu k hk), fun j => by rw [World.frozen?_setCell]; exact h.fz j⟩
theorem In.run_enter {P : Program} {f : FuncId} {fn : Func} (hf : P.funcs[f]? = some fn) (hname : (fn.name == "runtime.NumGoroutine") = false) (hb : fn.body.isSome = true) (args : Array Value) (w : World) :
    (callFunc f args).run P w = .ok (.enter f args) w := by
  have h1 : fn.name ≠ "runtime.NumGoroutine" := by simpa using hname
  obtain ⟨c, hc⟩ := Option.isSome_iff_exists.1 hb
  simp [callFunc, hf, h1, hc]
end Go.Proofs.YtlhgafpidkcmcaaDoor
