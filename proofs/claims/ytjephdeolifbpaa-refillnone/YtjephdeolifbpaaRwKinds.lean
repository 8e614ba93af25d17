/- The walks of what the lost columns are. -/
import Derived.Test.YtjephdeolifbpaaRwSort
import Derived.Laws.StructEq
import Derived.Laws.Cover2
namespace Go.Proofs.Ytjephdeolifbpaa
open Go.RowKit

/-- what the column at a place is: 0 a data column, 1 P, 2 Q -/
def Rf.kindF (x m : Nat) : Int := if x = m then 1 else if x = m + 1 then 2 else 0
set_option maxRecDepth 100000 in
set_option maxHeartbeats 1000000 in
theorem kindOf_any (x m : Nat) (hx : x ≤ 1000) (hm : m ≤ 1000) (w : World) :
    Calls Try.prog 69 #[.int .i64 (x : Nat), .int .i64 (m : Nat)] w fun e w' => e = .returned (.int .i64 (Rf.kindF x m)) ∧ w' = w := by
  by_cases h1 : x = m
  · have E : Hid (Rf.kindF x m = 1) := if_pos h1
    have h2 : ((x : Int) - (m : Int) == 0) = true := by rw [beq_iff_eq]; omega
    clear h1
    go_enter Try.func69, Try.ntmps69
    go_wp2
    go_ret
    exact ⟨ret_int E.out.symm, rfl⟩
  · have h2 : ((x : Int) - (m : Int) == 0) = false := by rw [beq_eq_false_iff_ne]; omega
    by_cases h3 : x = m + 1
    · have E : Hid (Rf.kindF x m = 2) := by show _ = _; unfold Rf.kindF; rw [if_neg h1, if_pos h3]
      have h4 : ((x : Int) - (m : Int) == 1) = true := by rw [beq_iff_eq]; omega
      clear h1 h3
      go_enter Try.func69, Try.ntmps69
      go_wp2
      go_ret
      exact ⟨ret_int E.out.symm, rfl⟩
    · have E : Hid (Rf.kindF x m = 0) := by show _ = _; unfold Rf.kindF; rw [if_neg h1, if_neg h3]
      have h4 : ((x : Int) - (m : Int) == 1) = false := by rw [beq_eq_false_iff_ne]; omega
      clear h1 h3
      go_enter Try.func69, Try.ntmps69
      go_wp2
      go_ret
      exact ⟨ret_int E.out.symm, rfl⟩
theorem sort_one (x : Int) : ([x].mergeSort fun x y => decide (x ≤ y)) = [x] := by simp
theorem sort_two (x y : Int) (h : x ≤ y) : ([x, y].mergeSort fun x y => decide (x ≤ y)) = [x, y] := by
  simp [List.mergeSort, List.MergeSort.Internal.splitInTwo, h]
theorem sort_turn (x y : Int) (h : x < y) : ([y, x].mergeSort fun x y => decide (x ≤ y)) = [x, y] := by
  have h' : ¬ y ≤ x := by omega
  simp [List.mergeSort, List.MergeSort.Internal.splitInTwo, h']
/-- the kinds of the first k of them, in order; none behind -/
def Rf.kAt (Z : Nat → Nat) (m k j : Nat) : Int := if j < k then Rf.kindF (Z j) m else 3
theorem buildPair (a b : Int) (w : World) : (Instr.build 61 #[(0, .int .i64 a), (1, .int .i64 b)]).run Try.prog w = .ok (.agg #[.int .i64 a, .int .i64 b]) w := run_build w 61 _ _ (by kernel_rfl)
theorem eqPair (a b c d : Int) (w : World) : (Op.equalIn 10000 61 (.agg #[.int .i64 a, .int .i64 b]) (.agg #[.int .i64 c, .int .i64 d])).run Try.prog w = .ok (a == c && b == d) w := by
  have u3 := Try.underlying59
  have a3 := Try.isAgg59
  have z3 := Try.sizeOf59
  rw [show (10000 : Nat) = 9999 + 1 from rfl, Op.equalIn]
  simp only [Sem.run_bind, run_underlying Try.underlying61, Result.andThen_ok]
  simp only [Std.Legacy.Range.forIn_eq_forIn_range', Std.Legacy.Range.size, Nat.sub_zero, Nat.add_sub_cancel, Nat.div_one, List.range'_succ, List.range'_zero, List.forIn_cons, List.forIn_nil]
  go_simp
  by_cases h1 : a = c <;> by_cases h2 : b = d <;> simp [h1, h2]

set_option maxRecDepth 100000 in
set_option maxHeartbeats 2000000 in
theorem kinds_any (m : Nat) (hm : m ≤ 1000) (ln : Nat) (h0 : 0 < ln) (h2 : ln ≤ 2) (L : Nat → Int) (Z : Nat → Nat) (hZ : ((Rf.uptoL L ln).mergeSort fun x y => decide (x ≤ y)) = (List.range ln).map fun j => ((Z j : Nat) : Int)) (hZl : ∀ j, j < ln → Z j ≤ 1000) (b : Option Addr) (capb : Nat) (w : World) (hl : RowI .i64 w b ln L) :
    Calls Try.prog 44 #[.slice b ln capb, .int .i64 (m : Nat)] w fun e w' => e = .returned (.agg #[.int .i64 (Rf.kAt Z m ln 0), .int .i64 (Rf.kAt Z m ln 1)]) ∧ Below w.heap.size w w' := by
  have hb := fun W => buildPair 3 3 W
  have hV := fun W => Values_any b ln capb W
  have HSO : Hid (∀ W, Below w.heap.size w W → ∀ Bs, W.cell? ⟨Bs, 0, none⟩ = some (.slice b ln capb) → Calls Try.prog 67 #[.func (.func 84) #[] #[.pointer (some ⟨Bs, 0, none⟩)]] W fun e w' => (∃ g c, e = .returned (.slice (some ⟨g, 0, none⟩) ln c) ∧ w'.ownsRow W.heap.size 3 1 (.slice (some ⟨g, 0, none⟩) ln c) ln (zVals ((List.range ln).map fun j => ((Z j : Nat) : Int)))) ∧ Below W.heap.size W w') := fun W hW Bs hc => by
    have h := Sorted_any ln h0 (by omega) Bs capb b L W hc (hl.below hW)
    rw [hZ] at h; exact h
  clear hZ hl
  go_enter Try.func44, Try.ntmps44
  go_wp2_with fail
  refine (hV _).mono ?_
  rintro e w1 ⟨rfl, hw1⟩
  have BW1 : Below w.heap.size w w1 := by rw [hw1]; exact ((((Below.refl _ w).alloc (Nat.le_refl _) _).alloc (by simp) _).alloc (by simp; omega) _)
  have hBs : w1.cell? ⟨w.heap.size + 1 + 1, 0, none⟩ = some (.slice b ln capb) := by
    rw [hw1]
    have := World.cell?_alloc_mark ((w.alloc (Obj.cells #[Value.int IntKind.i64 0, Value.int IntKind.i64 0] 61)).alloc (Obj.cells #[Value.int IntKind.i64 3, Value.int IntKind.i64 3] 61)) #[.slice b ln capb] 23 (0, 0) 0
    simpa using this
  have RV0 : rowV w1 w.heap.size 2 (fun _ => .int .i64 0) := by
    rw [hw1]
    have h := rowV_new w #[Value.int IntKind.i64 0, Value.int IntKind.i64 0] 61 (fun _ => .int .i64 0) (fun j hj => by
      have : j = 0 ∨ j = 1 := by simp at hj; omega
      rcases this with rfl | rfl <;> rfl)
    exact h.below (B := w.heap.size + 1) (((Below.refl _ _).alloc (by simp) _).alloc (by simp) _) (by omega)
  have RV1 : rowV w1 (w.heap.size + 1) 2 (fun j => .int .i64 (Rf.kAt Z m 0 j)) := by
    rw [hw1]
    have h := rowV_new (w.alloc (Obj.cells #[Value.int IntKind.i64 0, Value.int IntKind.i64 0] 61)) #[Value.int IntKind.i64 3, Value.int IntKind.i64 3] 61 (fun j => .int .i64 (Rf.kAt Z m 0 j)) (fun j hj => by
      have : j = 0 ∨ j = 1 := by simp at hj; omega
      rcases this with rfl | rfl <;> rfl)
    simp only [World.size_alloc] at h
    exact h.below (B := w.heap.size + 2) ((Below.refl _ _).alloc (by simp) _) (by omega)
  have hsz1 : w1.heap.size = w.heap.size + 3 := by rw [hw1]; simp
  have hS := HSO.out w1 BW1 _ hBs
  have EP : (⟨((w.alloc (Obj.cells #[Value.int IntKind.i64 0, Value.int IntKind.i64 0] 61)).alloc (Obj.cells #[Value.int IntKind.i64 3, Value.int IntKind.i64 3] 61)).heap.size, 0, none⟩ : Addr) = ⟨w.heap.size + 1 + 1, 0, none⟩ := by simp
  clear hw1 hV hBs
  try rw [EP]
  clear EP
  go_wp2_with fail
  refine hS.mono ?_
  rintro e w2 ⟨⟨g, c, rfl, own⟩, b2⟩
  have OWN : Hid (w2.ownsRow w1.heap.size 3 1 (.slice (some ⟨g, 0, none⟩) ln c) ln (zVals ((List.range ln).map fun j => ((Z j : Nat) : Int)))) := own
  have HG : Hid (w1.heap.size ≤ g) := owns_low own
  have R0 : Hid (rowV w2 w.heap.size 2 (fun _ => .int .i64 0)) := RV0.below b2 (by omega)
  have R1 : Hid (rowV w2 (w.heap.size + 1) 2 (fun j => .int .i64 (Rf.kAt Z m 0 j))) := RV1.below b2 (by omega)
  have B2 : Hid (Below w.heap.size w w2) := BW1.trans (b2.mono BW1.size)
  have HSZ : Hid (w1.heap.size = w.heap.size + 3) := hsz1
  clear own b2 hS BW1 RV0 RV1 hsz1 HSO
  go_wp2
  go_loopg [13] ln (fun gg i wr => ∃ k : Nat, k ≤ ln ∧ gg = ln - k ∧ i = .int .i64 k ∧ wr.ownsRow w1.heap.size 3 1 (.slice (some ⟨g, 0, none⟩) ln c) ln (zVals ((List.range ln).map fun j => ((Z j : Nat) : Int))) ∧ rowV wr w.heap.size 2 (fun _ => .int .i64 0) ∧ rowV wr (w.heap.size + 1) 2 (fun j => .int .i64 (Rf.kAt Z m k j)) ∧ Below w.heap.size w wr)
  case atStart => exact ⟨0, Nat.zero_le _, rfl, rfl, OWN.out, R0.out, R1.out, B2.out⟩
  case round =>
    obtain ⟨k, hk, rfl, rfl, own, r0, r1, hb⟩ := hrel
    have OW : Hid (wr.ownsRow w1.heap.size 3 1 (.slice (some ⟨g, 0, none⟩) ln c) ln (zVals ((List.range ln).map fun j => ((Z j : Nat) : Int)))) := own
    have Q0 : Hid (rowV wr w.heap.size 2 (fun _ => .int .i64 0)) := r0
    have Q1 : Hid (rowV wr (w.heap.size + 1) 2 (fun j => .int .i64 (Rf.kAt Z m k j))) := r1
    have HB : Hid (Below w.heap.size w wr) := hb
    clear own r0 r1 hb
    by_cases hkn : k < ln
    · have hc : wr.cell? ⟨g, k, none⟩ = some (.int .i64 ((Z k : Nat) : Int)) := by
        rw [OW.out.cellAt k (by omega)]; simp [zVals, hkn]
      have hzk := hZl k hkn
      have hKO := fun W => kindOf_any (Z k) m hzk hm W
      obtain ⟨z, hz⟩ : ∃ z, Z k = z := ⟨_, rfl⟩
      have HZK : Hid (Z k = z) := hz
      rw [hz] at hc hzk hKO
      obtain ⟨h1, h1f⟩ := Q1.out k (by omega)
      have hk2 : (k : Int) < 2 := by omega
      have hk2' : k < 2 := by omega
      clear hz
      go_wp2_with fail
      refine (hKO _).mono ?_
      rintro e w3 ⟨rfl, hw⟩
      subst w3
      go_wp2
      go_roundg (ln - (k + 1))
      case measure => omega
      case rel =>
        have hgne : g ≠ w.heap.size + 1 := by have := HG.out; have := HSZ.out; omega
        refine ⟨k + 1, by omega, rfl, by go_num, ?_, ?_, ?_, ?_⟩
        · exact OW.out.kept (grownBy_setCellAt _ _ _ _) (.inr (by simp [Value.ownBlock]; exact hgne))
        · exact fun j hj => by
            obtain ⟨a1, a2⟩ := Q0.out j hj
            exact ⟨by rw [World.cell?_setCell_other _ _ _ _ (by simp)]; exact a1, by rw [World.frozen?_setCell]; exact a2⟩
        · refine (Q1.out.set k _).mono fun j hj => ?_
          by_cases e : j = k
          · subst e; rw [if_pos rfl]; unfold Rf.kAt; rw [if_pos (by omega), HZK.out]
          · rw [if_neg e]; unfold Rf.kAt
            by_cases h : j < k
            · rw [if_pos h, if_pos (by omega)]
            · rw [if_neg h, if_neg (by omega)]
        · exact HB.out.setCell (p := ⟨w.heap.size + 1, k, none⟩) (by simp) _
    · have hkk : k = ln := by omega
      subst hkk
      obtain ⟨h0c, h0f⟩ := Q1.out 0 (by omega)
      obtain ⟨h1c, h1f⟩ := Q1.out 1 (by omega)
      obtain ⟨p0c, p0f⟩ := Q0.out 0 (by omega)
      obtain ⟨p1c, p1f⟩ := Q0.out 1 (by omega)
      have HW : Hid (∃ W, (wr.setCell ⟨w.heap.size, 0, none⟩ (.int .i64 (Rf.kAt Z m k 0))).setCell ⟨w.heap.size, 1, none⟩ (.int .i64 (Rf.kAt Z m k 1)) = W ∧ W.cell? ⟨w.heap.size, 0, none⟩ = some (.int .i64 (Rf.kAt Z m k 0)) ∧ W.cell? ⟨w.heap.size, 1, none⟩ = some (.int .i64 (Rf.kAt Z m k 1)) ∧ Below w.heap.size w W) := by
        refine ⟨_, rfl, ?_, ?_, (HB.out.setCell (p := ⟨w.heap.size, 0, none⟩) (Nat.le_refl _) _).setCell (p := ⟨w.heap.size, 1, none⟩) (Nat.le_refl _) _⟩
        · rw [World.cell?_setCell_other _ _ _ _ (by simp)]
          exact World.cell?_setCell_same _ _ _ p0c
        · exact World.cell?_setCell_same _ _ _ ((World.cell?_setCell_other _ _ _ _ (by simp)).trans p1c)
      go_wp2
      obtain ⟨W, eW, c0, c1, hbW⟩ := HW.out
      rw [eW]
      have hz := Try.sizeOf61
      have hag := Try.isAgg61
      refine bodyPost_ret (by simp [results, asAddr]; go_simp; try rfl) rfl ?_
      exact ⟨rfl, hbW⟩
end Go.Proofs.Ytjephdeolifbpaa
