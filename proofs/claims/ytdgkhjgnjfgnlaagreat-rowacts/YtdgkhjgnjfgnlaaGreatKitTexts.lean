import Derived.Test.YtdgkhjgnjfgnlaaGreatKitStr
namespace Go.Proofs.YtdgkhjgnjfgnlaaGreat
open Go.RowKit
theorem info_str : (Tryz.prog.info? 9).map (fun i => (i.zero, i.size, i.bytes)) = some (some (.string ByteArray.empty), 1, 16) := by kernel_rfl
def textVals (n : Nat) (f : Nat → ByteArray) : List Value := (List.range n).map fun j => .string (f j)
theorem textVals_length (n : Nat) (f : Nat → ByteArray) : (textVals n f).length = n := by simp [textVals]
theorem textVals_zero (f : Nat → ByteArray) : textVals 0 f = [] := rfl
theorem textVals_at {n j : Nat} (f : Nat → ByteArray) (h : j < n) : (textVals n f)[j]? = some (.string (f j)) := by simp [textVals, h]
theorem textVals_congr {n : Nat} {f g : Nat → ByteArray} (h : ∀ j, j < n → f j = g j) : textVals n f = textVals n g := by
 refine List.map_congr_left fun j hj => ?_
 rw [h j (List.mem_range.1 hj)]
theorem textVals_snoc (n : Nat) (f : Nat → ByteArray) : textVals n f ++ [.string (f n)] = textVals (n + 1) f := by simp [textVals, List.range_succ]
theorem textVals_append (n m : Nat) (f g : Nat → ByteArray) : textVals n f ++ textVals m g = textVals (n + m) (fun j => if j < n then f j else g (j - n)) := by
 refine List.ext_getElem? fun j => ?_
 by_cases h : j < n
 ·rw [List.getElem?_append_left (by rw [textVals_length]; exact h), textVals_at _ h, textVals_at _ (by omega), if_pos h]
 ·rw [List.getElem?_append_right (by rw [textVals_length]; omega), textVals_length]
  by_cases h2 : j < n + m
  ·rw [textVals_at _ (by omega), textVals_at _ h2, if_neg h]
  ·rw [List.getElem?_eq_none (by rw [textVals_length]; omega), List.getElem?_eq_none (by rw [textVals_length]; omega)]
theorem textVals_one {n : Nat} {f : Nat → ByteArray} : ∀ u ∈ textVals n f, u.oneCell' = true := by
 intro u hu
 obtain ⟨j, _, rfl⟩ := List.mem_map.1 hu
 rfl
theorem RowS.mono {w : World} {a : Option Addr} {n m : Nat} {f g : Nat → ByteArray} (h : RowS w a n f) (hm : m ≤ n) (e : ∀ j, j < m → f j = g j) : RowS w a m g := by
 intro j hj
 obtain ⟨b, off, ha, hc⟩ := h j (by omega)
 exact ⟨b, off, ha, by rw [← e j hj]; exact hc⟩
theorem RowS.nil (w : World) (a : Option Addr) (f : Nat → ByteArray) : RowS w a 0 f := fun _ hj => absurd hj (Nat.not_lt_zero _)
theorem RowS.drew {w : World} {a : Option Addr} {n : Nat} {f : Nat → ByteArray} (h : RowS w a n f) : RowS w.drew a n f := h
theorem RowS.new (w : World) (n : Nat) (f : Nat → ByteArray) (C : Array Value) (t : TypeId) (hC : C.toList = textVals n f) : RowS (w.alloc (.cells C t)) (some ⟨w.heap.size, 0, none⟩) n f := by
 intro j hj
 refine ⟨w.heap.size, 0, rfl, ?_⟩
 rw [World.cell?_alloc_mark, Nat.zero_add]
 have : C[j]? = C.toList[j]? := by simp
 rw [this, hC]; exact textVals_at f hj
theorem RowS.of_owns {w : World} {base t n : Nat} {v : Value} {f : Nat → ByteArray} (h : w.ownsRow base t 1 v n (textVals n f)) : ∃ a cap, v = .slice a n cap ∧ RowS w a n f ∧ n ≤ cap ∧ (∀ x, a = some x → base ≤ x.block) := by
 rcases h.2 with ⟨rfl, h0⟩ | ⟨g, cap, cur, rfl, hb, hg, hnc, rest⟩
 ·subst h0; exact ⟨none, 0, rfl, RowS.nil _ _ _, Nat.le_refl _, fun x h => by cases h⟩
 ·refine ⟨some ⟨g, 0, none⟩, cap, rfl, fun j hj => ⟨g, 0, rfl, ?_⟩, hnc, fun x h => by cases h; exact hb⟩
  have := h.cells (g := g) rfl j (.string (f j)) (textVals_at f hj)
  have hadd : (⟨g, 0, none⟩ : Addr).add j = ⟨g, 0 + j, none⟩ := by unfold Addr.add; split <;> simp_all
  rw [← hadd]; exact this
theorem RowS.at {w : World} {b off n : Nat} {f : Nat → ByteArray} (h : RowS w (some ⟨b, off, none⟩) n f) {j : Nat} (hj : j < n) : w.cell? ⟨b, off + j, none⟩ = some (.string (f j)) := by
 obtain ⟨b', off', ha, hc⟩ := h j hj
 cases ha
 exact hc
theorem RowS.place {w : World} {a : Option Addr} {n : Nat} {f : Nat → ByteArray} (h : RowS w a n f) : n = 0 ∨ ∃ b off, a = some ⟨b, off, none⟩ := by
 by_cases e : n = 0
 ·exact .inl e
 ·obtain ⟨b, off, ha, _⟩ := h 0 (by omega)
  exact .inr ⟨b, off, ha⟩
theorem RowS.cells {w : World} {b off : Nat} {n : Nat} {f : Nat → ByteArray} (h : RowS w (some ⟨b, off, none⟩) n f) : ∀ j u, (textVals n f)[j]? = some u → w.cell? ((⟨b, off, none⟩ : Addr).add j) = some u := by
 intro j u hu
 have hj : j < n := by
  have := (List.getElem?_eq_some_iff.1 hu).1
  rw [textVals_length] at this; exact this
 rw [textVals_at f hj] at hu
 obtain ⟨b', off', ha, hc⟩ := h j hj
 cases ha
 have hadd : (⟨b, off, none⟩ : Addr).add j = ⟨b, off + j, none⟩ := by unfold Addr.add; split <;> simp_all
 rw [hadd, hc]; exact hu
theorem add_zero' (x : Addr) : x.add 0 = x := by
 unfold Addr.add
 split <;> simp_all
theorem sliced_to (a : Option Addr) (N cap s : Nat) : sliced a 0 N cap s = .slice a N cap := by
 unfold sliced
 cases a with
 | none => simp
 | some x => simp [add_zero']
theorem run_slice_to (a : Option Addr) (len cap N : Nat) (h : N ≤ cap) (W : World) :
  (Instr.slice 40 (.slice a len cap) none (some (.int .i64 (N : Nat))) none).run Tryz.prog W = .ok (.slice a N cap) W := by
 rw [run_slice_h W 40 a len cap (by kernel_rfl) .i64 (N : Int) (by omega) (by omega)]
 simp [sliced_to]
 go_simp
end Go.Proofs.YtdgkhjgnjfgnlaaGreat
