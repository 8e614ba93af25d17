/- Texts of a slice, whichever it is, appended to a slice of the call's own. -/
import Derived.Test.YtjephdeolifbpaaKitTexts
import Derived.Test.YtjephdeolifbpaaKitRound
import Derived.Deep.AppendLies
namespace Go.Proofs.Ytjephdeolifbpaa
open Go.RowKit

/-- k texts, and more behind them -/
def joinF (k : Nat) (f g : Nat → ByteArray) (j : Nat) : ByteArray := if j < k then f j else g (j - k)
theorem textVals_join (k m : Nat) (f g : Nat → ByteArray) : textVals k f ++ textVals m g = textVals (k + m) (joinF k f g) := textVals_append k m f g
/-- nothing is appended -/
theorem run_append_nought (w : World) (base g k c : Nat) (xs : List Value) (own : w.ownsRow base 9 1 (.slice (some ⟨g, 0, none⟩) k c) k xs) (ad : Option Addr) (cx : Nat) (ty : TypeId) :
    ∃ w', (Builtin.append_ #[22, 22] ty #[.slice (some ⟨g, 0, none⟩) k c, .slice ad 0 cx]).run Try.prog w = .ok (.slice (some ⟨g, 0, none⟩) k c) w' ∧ w'.ownsRow base 9 1 (.slice (some ⟨g, 0, none⟩) k c) k xs ∧ w.grownBy w' (some g) := by
  obtain ⟨i0, hi, hz0, hz1, hz2⟩ := info_parts (show (Try.prog.info? 9).map (fun i => (i.zero, i.size, i.bytes)) = some (some (.string ByteArray.empty), 1, 16) from info_str)
  have hkc : k ≤ c := by
    rcases own.2 with ⟨e, _⟩ | ⟨_, _, _, e, _, _, h, _⟩
    · cases e
    · cases e; exact h
  refine ⟨w, ?_, own, ⟨rfl, rfl, rfl, Nat.le_refl _, fun _ _ _ => rfl⟩⟩
  simp [Builtin.append_, run_underlying Try.underlying22, sizeOf, typeInfo, hi, Builtin.lenOf, Builtin.firstCells, loadCells, loadCellsFrom, hkc]
  cases ad <;> simp [storeCells]

section
variable {ops : Array Oper} {rest : List Oper} {o : Oper} {a : Act} {Q : Exit → Act → World → Prop}
/-- the law on 'append(x, l...)', for a slice of texts that is nil or not, whatever is in it -/
theorem wpList_append_texts (w : World) (hgd : o.guard = none) (s x : Operand) (ho : o.op = .call { callee := .builtin .append, args := #[s, x], argTypes := #[22, 22] })
    (base g k c : Nat) (fl : Nat → ByteArray) (hs : a.eval s = .slice (some ⟨g, 0, none⟩) k c) (hown : w.ownsRow base 9 1 (.slice (some ⟨g, 0, none⟩) k c) k (textVals k fl))
    (ad : Option Addr) (m cx : Nat) (fm : Nat → ByteArray) (hx : a.eval x = .slice ad m cx) (hrow : RowS w ad m fm) (hle : k + m ≤ 1000000) (hbase : base ≤ w.heap.size)
    (h : ∀ g' c' w', w'.ownsRow base 9 1 (.slice (some ⟨g', 0, none⟩) (k + m) c') (k + m) (textVals (k + m) (joinF k fl fm)) → w.grownBy w' (some g) → (g' = g ∨ g' = w.heap.size) →
      wpList Try.prog ops Q rest (a.put o.dst (.slice (some ⟨g', 0, none⟩) (k + m) c')) w') : wpList Try.prog ops Q (o :: rest) a w := by
  obtain ⟨i0, hi, hz0, hz1, hz2⟩ := info_parts (show (Try.prog.info? 9).map (fun i => (i.zero, i.size, i.bytes)) = some (some (.string ByteArray.empty), 1, 16) from info_str)
  by_cases hm : m = 0
  · subst hm
    obtain ⟨w', hr, h2, h3⟩ := run_append_nought w base g k c _ hown ad cx o.type
    refine wpList_plain hgd fun _ hK => ?_
    unfold Oper.wp execOp
    simp only [ho, resolve, invoke, builtin, Sem.run_bind, Sem.run_pure, Result.andThen_ok, List.map_toArray, List.map_cons, List.map_nil, hs, hx, hr]
    refine hK _ _ (h g c w' ?_ h3 (.inl rfl))
    rw [← textVals_join, textVals_zero, List.append_nil]
    exact h2
  · rcases hrow.place with h0 | ⟨b, off, rfl⟩
    · exact absurd h0 hm
    · refine wpList_append_lies w hgd s x 22 ho base 9 i0 (.string ByteArray.empty) 1 16 Try.underlying22 hi hz0 hz1 hz2 rfl (by decide) (.slice (some ⟨g, 0, none⟩) k c) k (textVals k fl) hs hown ⟨b, off, none⟩ m cx (textVals m fm) hx (by rw [textVals_length, Nat.mul_one]) hrow.cells textVals_one (by omega) (by unfold maxLen; omega) (by omega) hbase w.heap.size rfl ?_
      intro g' c' w' own' grow' lies _
      refine h g' c' w' (by rw [← textVals_join]; exact own') grow' ?_
      rcases lies with e | e
      · exact .inl (by simpa [Value.ownBlock] using e.symm)
      · exact .inr e
end
theorem owns_low {w : World} {b t g n c : Nat} {l : List Value} (h : w.ownsRow b t 1 (.slice (some ⟨g, 0, none⟩) n c) n l) : b ≤ g := by
  rcases h.2 with ⟨e, _⟩ | ⟨_, _, _, e, h, _⟩
  · cases e
  · cases e; exact h
/-- what an append to a row of the call's own leaves as it was -/
theorem below_joined {w W w' : World} {b t g n c : Nat} {l : List Value} (hB : Below b w W) (hb : b ≤ W.heap.size) (h : W.ownsRow b t 1 (.slice (some ⟨g, 0, none⟩) n c) n l) (hg : W.grownBy w' (some g)) : Below b w w' :=
  hB.grown hg hb fun k hk => by cases hk; exact owns_low h
/-- one text, fresh in a cell of its own -/
theorem RowS.one (W : World) (g : Nat) (hg : W.heap.size = g) (s : ByteArray) (t : TypeId) : RowS (W.alloc (.cells #[.string s] t)) (some ⟨g, 0, none⟩) 1 (fun _ => s) := by
  subst hg; exact RowS.new W 1 _ _ _ rfl
theorem textVals_joinOne (k : Nat) (f : Nat → ByteArray) (s : ByteArray) (h : f k = s) : textVals (k + 1) (joinF k f (fun _ => s)) = textVals (k + 1) f := by
  refine textVals_congr fun j hj => ?_
  unfold joinF
  by_cases e : j < k
  · rw [if_pos e]
  · have e2 : j = k := by omega
    rw [if_neg e, e2, h]
end Go.Proofs.Ytjephdeolifbpaa
