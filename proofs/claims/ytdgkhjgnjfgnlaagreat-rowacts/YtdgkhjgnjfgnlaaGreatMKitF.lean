import Derived.Test.YtdgkhjgnjfgnlaaGreatKitTexts
import Derived.Test.YtdgkhjgnjfgnlaaGreatMGfA
import Derived.Test.YtdgkhjgnjfgnlaaGreatMKitD
import Derived.Deep.AppendLies
import Derived.Test.YtdgkhjgnjfgnlaaGreatMKitA
namespace Go.Proofs.YtdgkhjgnjfgnlaaGreat
open Go.RowKit
def bl (n : Nat) (B : Nat → UInt8) : List UInt8 := (List.range n).map B
theorem bl_length (n : Nat) (B : Nat → UInt8) : (bl n B).length = n := by simp [bl]
theorem bl_snoc (n : Nat) (B : Nat → UInt8) : bl n B ++ [B n] = bl (n + 1) B := by simp [bl, List.range_succ]
theorem bl_at {n j : Nat} (B : Nat → UInt8) (h : j < n) : (byteVals (bl n B))[j]? = some (.int .u8 ((B j).toNat : Int)) := by simp [byteVals, bl, h]
theorem byteVals_bl_length (n : Nat) (B : Nat → UInt8) : (byteVals (bl n B)).length = n := by rw [byteVals_length, bl_length]
theorem bl_set (n k : Nat) (B : Nat → UInt8) (v : UInt8) : (byteVals (bl n B)).set k (.int .u8 (v.toNat : Int)) = byteVals (bl n (Gfm.upd B k v)) := by
 refine List.ext_getElem? fun j => ?_
 rw [List.getElem?_set, byteVals_bl_length]
 by_cases h : k = j
 ·subst h
  rw [if_pos rfl]
  by_cases hn : k < n
  ·rw [if_pos hn, bl_at _ hn, Gfm.upd_same]
  ·rw [if_neg hn, List.getElem?_eq_none (by rw [byteVals_bl_length]; omega)]
 ·rw [if_neg h]
  by_cases hn : j < n
  ·rw [bl_at _ hn, bl_at _ hn, Gfm.upd_other _ _ (Ne.symm h)]
  ·rw [List.getElem?_eq_none (by rw [byteVals_bl_length]; omega), List.getElem?_eq_none (by rw [byteVals_bl_length]; omega)]
def RowB (w : World) (g n : Nat) (B : Nat → UInt8) : Prop := ∀ j, j < n → w.cell? ⟨g, j, none⟩ = some (.int .u8 ((B j).toNat : Int))
theorem RowB.of_owns {w : World} {base t g n c : Nat} {B : Nat → UInt8} (h : w.ownsRow base t 1 (.slice (some ⟨g, 0, none⟩) n c) n (byteVals (bl n B))) : RowB w g n B := fun j hj => by
 rw [h.cellAt j (by omega)]; exact bl_at B hj
theorem RowB.below {w w' : World} {g n : Nat} {B : Nat → UInt8} (h : RowB w g n B) (hb : Below w.heap.size w w') : RowB w' g n B := fun j hj =>
 (hb.cell (p := ⟨g, j, none⟩) (World.block_lt_of_cell? w _ (h j hj))).trans (h j hj)
end Go.Proofs.YtdgkhjgnjfgnlaaGreat
namespace Go.Proofs.YtdgkhjgnjfgnlaaGreat
open Go.RowKit
def joinF (k : Nat) (f g : Nat → ByteArray) (j : Nat) : ByteArray := if j < k then f j else g (j - k)
theorem textVals_join (k m : Nat) (f g : Nat → ByteArray) : textVals k f ++ textVals m g = textVals (k + m) (joinF k f g) := textVals_append k m f g
theorem run_append_nought (w : World) (base g k c : Nat) (xs : List Value) (own : w.ownsRow base 9 1 (.slice (some ⟨g, 0, none⟩) k c) k xs) (ad : Option Addr) (cx : Nat) (ty : TypeId) :
  ∃ w', (Builtin.append_ #[40, 40] ty #[.slice (some ⟨g, 0, none⟩) k c, .slice ad 0 cx]).run Tryz.prog w = .ok (.slice (some ⟨g, 0, none⟩) k c) w' ∧ w'.ownsRow base 9 1 (.slice (some ⟨g, 0, none⟩) k c) k xs ∧ w.grownBy w' (some g) := by
 obtain ⟨i0, hi, hz0, hz1, hz2⟩ := info_parts (show (Tryz.prog.info? 9).map (fun i => (i.zero, i.size, i.bytes)) = some (some (.string ByteArray.empty), 1, 16) from info_str)
 have hkc : k ≤ c := by
  rcases own.2 with ⟨e, _⟩ | ⟨_, _, _, e, _, _, h, _⟩
  ·cases e
  ·cases e; exact h
 refine ⟨w, ?_, own, ⟨rfl, rfl, rfl, Nat.le_refl _, fun _ _ _ => rfl⟩⟩
 simp [Builtin.append_, run_underlying Tryz.underlying40, sizeOf, typeInfo, hi, Builtin.lenOf, Builtin.firstCells, loadCells, loadCellsFrom, hkc]
 cases ad <;> simp [storeCells]
section
variable {ops : Array Oper} {rest : List Oper} {o : Oper} {a : Act} {Q : Exit → Act → World → Prop}
theorem wpList_append_texts (w : World) (hgd : o.guard = none) (s x : Operand) (ho : o.op = .call { callee := .builtin .append, args := #[s, x], argTypes := #[40, 40] })
  (base g k c : Nat) (fl : Nat → ByteArray) (hs : a.eval s = .slice (some ⟨g, 0, none⟩) k c) (hown : w.ownsRow base 9 1 (.slice (some ⟨g, 0, none⟩) k c) k (textVals k fl))
  (ad : Option Addr) (m cx : Nat) (fm : Nat → ByteArray) (hx : a.eval x = .slice ad m cx) (hrow : RowS w ad m fm) (hle : k + m ≤ 1000000) (hbase : base ≤ w.heap.size)
  (h : ∀ g' c' w', w'.ownsRow base 9 1 (.slice (some ⟨g', 0, none⟩) (k + m) c') (k + m) (textVals (k + m) (joinF k fl fm)) → w.grownBy w' (some g) → (g' = g ∨ g' = w.heap.size) →
   wpList Tryz.prog ops Q rest (a.put o.dst (.slice (some ⟨g', 0, none⟩) (k + m) c')) w') : wpList Tryz.prog ops Q (o :: rest) a w := by
 obtain ⟨i0, hi, hz0, hz1, hz2⟩ := info_parts (show (Tryz.prog.info? 9).map (fun i => (i.zero, i.size, i.bytes)) = some (some (.string ByteArray.empty), 1, 16) from info_str)
 by_cases hm : m = 0
 ·subst hm
  obtain ⟨w', hr, h2, h3⟩ := run_append_nought w base g k c _ hown ad cx o.type
  refine wpList_plain hgd fun _ hK => ?_
  unfold Oper.wp execOp
  simp only [ho, resolve, invoke, builtin, Sem.run_bind, Sem.run_pure, Result.andThen_ok, List.map_toArray, List.map_cons, List.map_nil, hs, hx, hr]
  refine hK _ _ (h g c w' ?_ h3 (.inl rfl))
  rw [← textVals_join, textVals_zero, List.append_nil]
  exact h2
 ·rcases hrow.place with h0 | ⟨b, off, rfl⟩
  ·exact absurd h0 hm
  ·refine wpList_append_lies w hgd s x 40 ho base 9 i0 (.string ByteArray.empty) 1 16 Tryz.underlying40 hi hz0 hz1 hz2 rfl (by decide) (.slice (some ⟨g, 0, none⟩) k c) k (textVals k fl) hs hown ⟨b, off, none⟩ m cx (textVals m fm) hx (by rw [textVals_length, Nat.mul_one]) hrow.cells textVals_one (by omega) (by unfold maxLen; omega) (by omega) hbase w.heap.size rfl ?_
   intro g' c' w' own' grow' lies _
   refine h g' c' w' (by rw [← textVals_join]; exact own') grow' ?_
   rcases lies with e | e
   ·exact .inl (by simpa [Value.ownBlock] using e.symm)
   ·exact .inr e
end
theorem owns_low {w : World} {b t g n c : Nat} {l : List Value} (h : w.ownsRow b t 1 (.slice (some ⟨g, 0, none⟩) n c) n l) : b ≤ g := by
 rcases h.2 with ⟨e, _⟩ | ⟨_, _, _, e, h, _⟩
 ·cases e
 ·cases e; exact h
theorem below_joined {w W w' : World} {b t g n c : Nat} {l : List Value} (hB : Below b w W) (hb : b ≤ W.heap.size) (h : W.ownsRow b t 1 (.slice (some ⟨g, 0, none⟩) n c) n l) (hg : W.grownBy w' (some g)) : Below b w w' :=
 hB.grown hg hb fun k hk => by cases hk; exact owns_low h
theorem RowS.one (W : World) (g : Nat) (hg : W.heap.size = g) (s : ByteArray) (t : TypeId) : RowS (W.alloc (.cells #[.string s] t)) (some ⟨g, 0, none⟩) 1 (fun _ => s) := by
 subst hg; exact RowS.new W 1 _ _ _ rfl
theorem textVals_joinOne (k : Nat) (f : Nat → ByteArray) (s : ByteArray) (h : f k = s) : textVals (k + 1) (joinF k f (fun _ => s)) = textVals (k + 1) f := by
 refine textVals_congr fun j hj => ?_
 unfold joinF
 by_cases e : j < k
 ·rw [if_pos e]
 ·have e2 : j = k := by omega
  rw [if_neg e, e2, h]
end Go.Proofs.YtdgkhjgnjfgnlaaGreat
namespace Go.Proofs.YtdgkhjgnjfgnlaaGreat
open Go.RowKit
theorem info_bytes : (Tryz.prog.info? 109).map (fun i => (i.zero, i.size, i.bytes)) = some (some (.slice none 0 0), 1, 24) := by kernel_rfl
def headVals (n : Nat) (p c K : Nat → Nat) : List Value := (List.range n).map fun i => .slice (some ⟨p i, 0, none⟩) (K i) (c i)
theorem headVals_length (n : Nat) (p c K : Nat → Nat) : (headVals n p c K).length = n := by simp [headVals]
theorem headVals_at {n i : Nat} (p c K : Nat → Nat) (h : i < n) : (headVals n p c K)[i]? = some (.slice (some ⟨p i, 0, none⟩) (K i) (c i)) := by simp [headVals, h]
theorem headVals_snoc (n : Nat) (p c K : Nat → Nat) (g k cc : Nat) : headVals n p c K ++ [.slice (some ⟨g, 0, none⟩) k cc] = headVals (n + 1) (Gfm.upd p n g) (Gfm.upd c n cc) (Gfm.upd K n k) := by
 refine List.ext_getElem? fun j => ?_
 by_cases h : j < n
 ·rw [List.getElem?_append_left (by rw [headVals_length]; exact h), headVals_at _ _ _ h, headVals_at _ _ _ (by omega), Gfm.upd_other _ _ (by omega), Gfm.upd_other _ _ (by omega), Gfm.upd_other _ _ (by omega)]
 ·rw [List.getElem?_append_right (by rw [headVals_length]; omega), headVals_length]
  by_cases e : j = n
  ·subst e
   rw [headVals_at _ _ _ (by omega), Gfm.upd_same, Gfm.upd_same, Gfm.upd_same]; simp
  ·rw [List.getElem?_eq_none (by simp; omega), List.getElem?_eq_none (by rw [headVals_length]; omega)]
theorem headVals_set (n i : Nat) (p c K : Nat → Nat) (g k cc : Nat) : (headVals n p c K).set i (.slice (some ⟨g, 0, none⟩) k cc) = headVals n (Gfm.upd p i g) (Gfm.upd c i cc) (Gfm.upd K i k) := by
 refine List.ext_getElem? fun j => ?_
 rw [List.getElem?_set, headVals_length]
 by_cases h : i = j
 ·subst h
  rw [if_pos rfl]
  by_cases hn : i < n
  ·rw [if_pos hn, headVals_at _ _ _ hn, Gfm.upd_same, Gfm.upd_same, Gfm.upd_same]
  ·rw [if_neg hn, List.getElem?_eq_none (by rw [headVals_length]; omega)]
 ·rw [if_neg h]
  by_cases hn : j < n
  ·rw [headVals_at _ _ _ hn, headVals_at _ _ _ hn, Gfm.upd_other _ _ (Ne.symm h), Gfm.upd_other _ _ (Ne.symm h), Gfm.upd_other _ _ (Ne.symm h)]
  ·rw [List.getElem?_eq_none (by rw [headVals_length]; omega), List.getElem?_eq_none (by rw [headVals_length]; omega)]
structure Outs (w : World) (base n go co : Nat) (p c K : Nat → Nat) (R : Nat → Nat → UInt8) : Prop where
 out : w.ownsRow base 109 1 (.slice (some ⟨go, 0, none⟩) n co) n (headVals n p c K)
 rows : ∀ i, i < n → w.ownsRow base 5 1 (.slice (some ⟨p i, 0, none⟩) (K i) (c i)) (K i) (byteVals (bl (K i) fun t => R t i))
 apart : ∀ i j, i < n → j < n → i ≠ j → p i ≠ p j
theorem Outs.below {w w' : World} {base n go co : Nat} {p c K : Nat → Nat} {R : Nat → Nat → UInt8} (h : Outs w base n go co p c K R) (hb : Below w.heap.size w w') : Outs w' base n go co p c K R :=
 ⟨ownsRow_below h.out hb, fun i hi => ownsRow_below (h.rows i hi) hb, h.apart⟩
theorem Outs.block {w : World} {base n go co : Nat} {p c K : Nat → Nat} {R : Nat → Nat → UInt8} (h : Outs w base n go co p c K R) {i : Nat} (hi : i < n) : base ≤ p i ∧ p i < w.heap.size := (h.rows i hi).lt (p i) rfl
theorem Outs.outBlock {w : World} {base n go co : Nat} {p c K : Nat → Nat} {R : Nat → Nat → UInt8} (h : Outs w base n go co p c K R) : base ≤ go ∧ go < w.heap.size := h.out.lt go rfl
theorem Outs.cell {w : World} {base n go co : Nat} {p c K : Nat → Nat} {R : Nat → Nat → UInt8} (h : Outs w base n go co p c K R) {i : Nat} (hi : i < n) : w.cell? ⟨go, i, none⟩ = some (.slice (some ⟨p i, 0, none⟩) (K i) (c i)) := by
 rw [h.out.cellAt i (by omega)]; exact headVals_at _ _ _ hi
theorem Outs.ne {w : World} {base n go co : Nat} {p c K : Nat → Nat} {R : Nat → Nat → UInt8} (h : Outs w base n go co p c K R) {i : Nat} (hi : i < n) : p i ≠ go := by
 rcases ownsRow_apart (h.rows i hi) h.out (by decide) with e | e
 ·simp [Value.ownBlock] at e
 ·intro e2; exact e (by simp [Value.ownBlock, e2])
theorem Outs.start (w : World) (p c K : Nat → Nat) (R : Nat → Nat → UInt8) : Outs (w.alloc (.cells #[] 109)) w.heap.size 0 w.heap.size 0 p c K R :=
 ⟨World.ownsRow_made w #[] 0 (Nat.le_refl _) (by decide) rfl, fun i hi => absurd hi (Nat.not_lt_zero _), fun i _ hi => absurd hi (Nat.not_lt_zero _)⟩
theorem Outs.more {w W w' : World} {base n go co g co' : Nat} {p c K : Nat → Nat} {R : Nat → Nat → UInt8} (h : Outs w base n go co p c K R) (hb : base ≤ w.heap.size) (hW : W = (w.alloc (.cells #[] 5)).alloc (.cells #[.slice (some ⟨w.heap.size, 0, none⟩) 0 0] 109))
  (own : w'.ownsRow base 109 1 (.slice (some ⟨g, 0, none⟩) (n + 1) co') (n + 1) (headVals n p c K ++ [.slice (some ⟨w.heap.size, 0, none⟩) 0 0])) (grow : W.grownBy w' (some go)) :
  Outs w' base (n + 1) g co' (Gfm.upd p n w.heap.size) (Gfm.upd c n 0) (Gfm.upd K n 0) R := by
 have hbW : Below w.heap.size w W := by rw [hW]; exact ((Below.refl _ w).alloc (Nat.le_refl _) _).alloc (by simp) _
 have hO := h.out
 refine ⟨by rw [headVals_snoc] at own; exact own, fun i hi => ?_, fun i j hi hj hij => ?_⟩
 ·by_cases e : i = n
  ·subst e
   rw [Gfm.upd_same, Gfm.upd_same, Gfm.upd_same]
   have hn : W.ownsRow base 5 1 (.slice (some ⟨w.heap.size, 0, none⟩) 0 0) 0 (byteVals (bl 0 fun t => R t i)) := by
    rw [hW]
    exact (World.ownsRow_made w #[] 0 hb (by decide) rfl).alloc _
   refine hn.kept grow (.inr ?_)
   have := h.outBlock.2
   simp [Value.ownBlock]; omega
  ·rw [Gfm.upd_other _ _ e, Gfm.upd_other _ _ e, Gfm.upd_other _ _ e]
   refine (ownsRow_below (h.rows i (by omega)) hbW).kept grow (.inr ?_)
   have := h.ne (i := i) (by omega)
   simp [Value.ownBlock]; exact this
 ·by_cases e1 : i = n <;> by_cases e2 : j = n
  ·omega
  ·subst e1; rw [Gfm.upd_same, Gfm.upd_other _ _ e2]; have := (h.block (i := j) (by omega)).2; omega
  ·subst e2; rw [Gfm.upd_same, Gfm.upd_other _ _ e1]; have := (h.block (i := i) (by omega)).2; omega
  ·rw [Gfm.upd_other _ _ e1, Gfm.upd_other _ _ e2]; exact h.apart i j (by omega) (by omega) hij
theorem Outs.put {w W w' : World} {base n go co i g c' : Nat} {p c K : Nat → Nat} {R : Nat → Nat → UInt8} (h : Outs w base n go co p c K R) (hi : i < n) (hbW : Below w.heap.size w W) (v : UInt8) (hv : R (K i) i = v)
  (own : w'.ownsRow base 5 1 (.slice (some ⟨g, 0, none⟩) (K i + 1) c') (K i + 1) (byteVals (bl (K i) fun t => R t i) ++ [.int .u8 (v.toNat : Int)])) (grow : W.grownBy w' (some (p i))) (lies : g = p i ∨ g = W.heap.size) :
  Outs (w'.setCell ⟨go, i, none⟩ (.slice (some ⟨g, 0, none⟩) (K i + 1) c')) base n go co (Gfm.upd p i g) (Gfm.upd c i c') (Gfm.upd K i (K i + 1)) R := by
 have hgo := h.outBlock
 have hpi := h.block hi
 have hsz := hbW.size
 have ho : w'.ownsRow base 109 1 (.slice (some ⟨go, 0, none⟩) n co) n (headVals n p c K) :=
  (ownsRow_below h.out hbW).kept grow (.inr (by have := h.ne hi; simp [Value.ownBlock]; omega))
 have st := ho.stored i (.slice (some ⟨g, 0, none⟩) (K i + 1) c')
 rw [headVals_set] at st
 have hg : g ≠ go := by
  rcases lies with e | e
  ·rw [e]; exact h.ne hi
  ·omega
 refine ⟨st.1, fun j hj => ?_, fun a b ha hb hab => ?_⟩
 ·by_cases e : j = i
  ·subst e
   rw [Gfm.upd_same, Gfm.upd_same, Gfm.upd_same]
   rw [byteVals_snoc, ← hv, bl_snoc (K j) fun t => R t j] at own
   exact own.kept st.2 (.inr (by simp [Value.ownBlock]; exact hg))
  ·rw [Gfm.upd_other _ _ e, Gfm.upd_other _ _ e, Gfm.upd_other _ _ e]
   refine ((ownsRow_below (h.rows j hj) hbW).kept grow (.inr ?_)).kept st.2 (.inr ?_)
   ·have := h.apart j i hj hi e
    simp [Value.ownBlock]; exact this
   ·have := h.ne hj
    simp [Value.ownBlock]; exact this
 ·by_cases e1 : a = i <;> by_cases e2 : b = i
  ·omega
  ·subst e1; rw [Gfm.upd_same, Gfm.upd_other _ _ e2]
   rcases lies with e | e
   ·rw [e]; exact h.apart a b ha hb hab
   ·have := (h.block hb).2; omega
  ·subst e2; rw [Gfm.upd_same, Gfm.upd_other _ _ e1]
   rcases lies with e | e
   ·rw [e]; exact h.apart a b ha hb hab
   ·have := (h.block ha).2; omega
  ·rw [Gfm.upd_other _ _ e1, Gfm.upd_other _ _ e2]; exact h.apart a b ha hb hab
theorem Outs.turn {w : World} {base n go co : Nat} {p c K K' : Nat → Nat} {R : Nat → Nat → UInt8} (h : Outs w base n go co p c K R) (e : ∀ i, i < n → K i = K' i) : Outs w base n go co p c K' R := by
 refine ⟨?_, fun i hi => by rw [← e i hi]; exact h.rows i hi, h.apart⟩
 have : headVals n p c K = headVals n p c K' := List.map_congr_left fun i hi => by rw [e i (List.mem_range.1 hi)]
 rw [← this]; exact h.out
end Go.Proofs.YtdgkhjgnjfgnlaaGreat
