/- A slice of one text of 64 bytes, built; one more write, as memory has it. -/
import Derived.Test.YtgkhnfchohcjeaaDrvMap
namespace Go.Proofs.Ytgkhnfchohcjeaa
open Go.RowKit Go.Maps

theorem fill_list : ∀ (l : List Value) (k : Nat) (Z : Array Value), k + l.length = Z.size → ((l.zipIdx k).foldl (fun cs (x : Value × Nat) => cs.setIfInBounds (0 + x.2) x.1) Z).toList = Z.toList.take k ++ l
  | [], k, Z, h => by simp at h ⊢; rw [List.take_of_length_le (by simp; omega)]
  | v :: r, k, Z, h => by
    simp only [List.length_cons] at h
    rw [List.zipIdx_cons, List.foldl_cons]
    rw [fill_list r (k + 1) (Z.setIfInBounds (0 + k) v) (by simp; omega)]
    rw [Array.toList_setIfInBounds, Nat.zero_add, List.take_succ_eq_append_getElem (by simp; omega)]
    rw [List.take_set_of_le (by omega)]
    simp
theorem run_build_sector (cells : Array Value) (hc : cells.size = 64) (W : World) : (Instr.buildSlice 51 1 #[(0, .agg cells)]).run Try.prog W = .ok (.slice (some ⟨W.heap.size, 0, none⟩) 1 1) (W.alloc (.cells cells 71)) := by
  obtain ⟨i, hi, hz, hs, hb⟩ := info_parts info_sector3
  have hf : ∀ Z : Array Value, Z.size = 64 → Instr.fill (fun j => some (j * 64, 64)) Z [(0, .agg cells)] = some cells := by
    intro Z hZ
    have h1 : (cells.zipIdx.foldl (fun cs (x : Value × Nat) => cs.setIfInBounds (0 + x.2) x.1) Z) = cells := by
      apply Array.ext'
      rw [← Array.foldl_toList, Array.toList_zipIdx]
      rw [fill_list cells.toList 0 Z (by simp; omega)]
      simp
    have hcs : (Value.agg cells).cells = cells := rfl
    simp only [Nat.zero_add] at h1
    simp [Instr.fill, hcs, hc, hZ]
    rw [show cells.zipIdx.size = 64 by simp [hc]] at h1
    exact h1
  have hZ : ((Array.range (1 * 64)).map (fun x => ((Value.agg (Array.replicate 64 (.int .u8 0))).cells)[x % ((Value.agg (Array.replicate 64 (.int .u8 0))).cells).size]!)).size = 64 := by simp
  have hF := hf _ hZ
  simp [Instr.buildSlice, run_underlying Try.underlying51, sizeOf, typeInfo, hi, hs, zeroValue, hz]
  rw [show 1 * 64 = 64 from rfl] at hF
  rw [hF]
  simp [newRow]
theorem wpList_build_sector {ops : Array Oper} {rest : List Oper} {o : Oper} {a : Act} {w : World} {Q : Exit → Act → World → Prop} (hgd : o.guard = none) (x : Operand)
    (ho : o.op = .buildSlice 51 1 #[(0, x)]) (cells : Array Value) (hx : a.eval x = .agg cells) (hc : cells.size = 64)
    (h : wpList Try.prog ops Q rest (a.put o.dst (.slice (some ⟨w.heap.size, 0, none⟩) 1 1)) (w.alloc (.cells cells 71))) : wpList Try.prog ops Q (o :: rest) a w := by
  refine wpList_plain hgd fun K hK => ?_
  have hr := run_build_sector cells hc w
  unfold Oper.wp execOp
  simp only [ho, Sem.run_bind, Sem.run_pure, Result.andThen_ok, List.map_toArray, List.map_cons, List.map_nil, hx, hr]
  exact hK _ _ h

/-- One write more. -/
theorem DrvIn.wrote {w w2 w3 w4 : World} {p sb pb mb : Nat} {hd : Nat → Value} {D : Dr} {M : DataW Unit} (h : DrvIn w p sb pb mb hd D) (hM : MapIn w mb hd D M) {i m : Nat} (hi : i < D.safe.length) {s : List UInt8} (hs : s.length = 64)
    (h2 : Below w.heap.size w w2) {v : Value} {d : DataW Unit} (h3 : w2.grownBy w3 (hd i).ownBlock) (hr : w3.ownsRow 0 71 64 v ((D.writes i).length + 1) (flat (D.writes i) ++ byteVals s))
    (hl : v.ownBlock = (hd i).ownBlock ∨ v.ownBlock = some w2.heap.size) (hv : hdrD v = some (d, [])) (ho : w4.ownsMap Try.prog 3 hdrD mb m (M.put (keyL i) d)) (h4 : w3.grownBy w4 (some mb)) :
    DrvIn w4 p sb pb mb (fun j => if j = i then v else hd j) { D with writes := fun j => if j = i then D.writes i ++ [s] else D.writes j } ∧ Only (Foot p sb pb mb hd) w w4 ∧ ∀ k, Foot p sb pb mb (fun j => if j = i then v else hd j) k → Foot p sb pb mb hd k ∨ w.heap.size ≤ k := by
  have ho1 := h.others
  have lt := h.lt
  have hok := h.ok
  obtain ⟨c1, hsf, hs2⟩ := h.safe
  obtain ⟨c2, hp, hp2⟩ := h.spoilt
  have o2 : Only (Foot p sb pb mb hd) w w2 := Only.of_below h2 _
  have o3 : Only (fun k => (hd i).ownBlock = some k) w2 w3 := Only.of_grown h3 _ (fun k hk => hk)
  have o4 : Only (One mb) w3 w4 := Only.of_grown h4 _ (fun k hk => by injection hk with hk; exact hk.symm)
  have hold : ∀ k, k < w.heap.size → k ≠ mb → (hd i).ownBlock ≠ some k → w4.heap[k]? = w.heap[k]? := by
    intro k hk h1 h2'
    have hk2 : k < w2.heap.size := Nat.lt_of_lt_of_le hk h2.size
    rw [o4.block k (Nat.lt_of_lt_of_le hk2 o3.size) h1, o3.block k hk2 h2']
    exact h2.block k hk
  have vnew : ∀ k, v.ownBlock = some k → (hd i).ownBlock = some k ∨ w.heap.size ≤ k := by
    intro k hk
    rcases hl with e | e
    · exact .inl (by rw [← e]; exact hk)
    · rw [hk] at e; injection e with e; exact .inr (by rw [e]; exact h2.size)
  have vlt : ∀ k, v.ownBlock = some k → k < w3.heap.size := fun k hk => (hr.lt k hk).2
  have mne : ∀ k, v.ownBlock = some k → k ≠ mb := by
    intro k hk e
    rcases vnew k hk with h1 | h1
    · exact ho1.r_mb i (by rw [h1, e])
    · have := lt mb (.inr (.inr (.inr (.inl rfl)))); omega
  refine ⟨⟨?_, ?_, ⟨c1, ?_, hs2⟩, ⟨c2, ?_, hp2⟩, ⟨M.put (keyL i) d, ?_⟩, ?_, ?_, ?_, ?_⟩, ?_, ?_⟩
  · have := hok.put hi hs
    exact ⟨hok.pos, hok.le, hok.spoilt, hok.sector, this.writes, this.out, hok.left⟩
  · exact (hold p (lt p (.inl rfl)) ho1.p_mb (ho1.r_p i)).trans h.self
  · exact (hold sb (lt sb (.inr (.inl rfl))) ho1.sb_mb (ho1.r_sb i)).trans hsf
  · exact (hold pb (lt pb (.inr (.inr (.inl rfl)))) ho1.pb_mb (ho1.r_pb i)).trans hp
  · exact hM.put hok hi hv ho rfl (by simp) (fun j hj => by simp [hj])
  · intro j
    by_cases e : j = i
    · subst e
      have e2 : (if j = j then D.writes j ++ [s] else D.writes j) = D.writes j ++ [s] := if_pos rfl
      have hr4 := ownsRow_only o4 hr (fun k hk => mne k hk)
      show w4.ownsRow 0 71 64 (if j = j then v else hd j) (if j = j then D.writes j ++ [s] else D.writes j).length (flat (if j = j then D.writes j ++ [s] else D.writes j))
      rw [e2, if_pos rfl, List.length_append, flat_append]
      have e3 : flat [s] = byteVals s := by rw [flat_cons, flat_nil, List.append_nil]
      rw [e3]
      exact hr4
    · show w4.ownsRow 0 71 64 (if j = i then v else hd j) (if j = i then D.writes i ++ [s] else D.writes j).length (flat (if j = i then D.writes i ++ [s] else D.writes j))
      rw [if_neg e, if_neg e]
      have hr0 := h.rows j
      refine ⟨hr0.1, ?_⟩
      rcases hr0.2 with h0 | ⟨g, cap, cur, eg, hg0, hg, rest⟩
      · exact .inl h0
      · have hb : (hd j).ownBlock = some g := by rw [eg]; rfl
        refine .inr ⟨g, cap, cur, eg, hg0, ?_, rest⟩
        rw [hold g (lt g (.inr (.inr (.inr (.inr ⟨j, hb⟩))))) (fun e' => ho1.r_mb j (by rw [hb, e'])) (h.apart j i e g hb)]
        exact hg
  · intro j hj
    have hj' : (if j = i then D.writes i ++ [s] else D.writes j) = [] := hj
    by_cases e : j = i
    · rw [if_pos e] at hj'; simp at hj'
    · rw [if_neg e] at hj'
      show (if j = i then v else hd j) = _
      rw [if_neg e]; exact h.nil j hj'
  · intro j
    show (if j = i then v else hd j).ownBlock ≠ some sb
    by_cases e : j = i
    · rw [if_pos e]
      intro hk
      rcases vnew sb hk with h1 | h1
      · exact ho1.r_sb i h1
      · have := lt sb (.inr (.inl rfl)); omega
    · rw [if_neg e]; exact h.off j
  · intro a b hab k hk hk'
    have hk1 : (if a = i then v else hd a).ownBlock = some k := hk
    have hk2 : (if b = i then v else hd b).ownBlock = some k := hk'
    by_cases ea : a = i
    · rw [if_pos ea] at hk1
      rw [if_neg (fun eb => hab (ea.trans eb.symm))] at hk2
      rcases vnew k hk1 with h1 | h1
      · exact h.apart i b (fun e => hab (ea.trans e)) k h1 hk2
      · have := lt k (.inr (.inr (.inr (.inr ⟨b, hk2⟩)))); omega
    · rw [if_neg ea] at hk1
      by_cases eb : b = i
      · rw [if_pos eb] at hk2
        rcases vnew k hk2 with h1 | h1
        · exact h.apart i a (fun e => ea e.symm) k h1 hk1
        · have := lt k (.inr (.inr (.inr (.inr ⟨a, hk1⟩)))); omega
      · rw [if_neg eb] at hk2
        exact h.apart a b hab k hk1 hk2
  · refine ⟨by rw [o4.os, o3.os, o2.os], by rw [o4.tape, o3.tape, o2.tape], by rw [o4.output, o3.output, o2.output], Nat.le_trans o2.size (Nat.le_trans o3.size o4.size), fun k hk hn => hold k hk (fun e => hn (.inr (.inr (.inr (.inl e))))) (fun e => hn (.inr (.inr (.inr (.inr ⟨i, e⟩)))))⟩
  · intro k hk
    rcases hk with e | e | e | e | ⟨j, hj⟩
    · exact .inl (.inl e)
    · exact .inl (.inr (.inl e))
    · exact .inl (.inr (.inr (.inl e)))
    · exact .inl (.inr (.inr (.inr (.inl e))))
    · have hj' : (if j = i then v else hd j).ownBlock = some k := hj
      by_cases e : j = i
      · rw [if_pos e] at hj'
        rcases vnew k hj' with h1 | h1
        · exact .inl (.inr (.inr (.inr (.inr ⟨i, h1⟩))))
        · exact .inr h1
      · rw [if_neg e] at hj'
        exact .inl (.inr (.inr (.inr (.inr ⟨j, hj'⟩))))
end Go.Proofs.Ytgkhnfchohcjeaa
