/- The columns that the program fills are those that the document says, byte by byte. -/
import Derived.Test.YtjephdeolifbpaaRwRefill
namespace Go.Proofs.Ytjephdeolifbpaa.Rf
open Gfm
theorem col_upd (F : Nat → ByteArray) (j : Nat) (x : ByteArray) (t : Nat) : col (upd F j x) t = upd (col F t) j (byt x t) := by
  funext i
  unfold col upd
  split <;> rfl
theorem byt_sumP (m : Nat) (F : Nat → ByteArray) (t : Nat) : byt (sumP m F) t = synP m (col F t) := by
  unfold sumP synP col; rw [byt_xor, byt_addF, UInt8.xor_comm]
theorem byt_sumQ (m : Nat) (F : Nat → ByteArray) (t : Nat) : byt (sumQ m F) t = synQ m (col F t) := by
  unfold sumQ synQ col; rw [byt_xor, byt_addQ, UInt8.xor_comm]
theorem byt_Q (m : Nat) (F : Nat → ByteArray) (t : Nat) : byt (addF m (qT F)) t = xorN m fun i => mulU (col F t i) (pE i) := by rw [byt_addQ]; rfl
theorem inv_pE (d : Nat) : powI 2 (-(d : Int)) = inv (pE d) := by
  rw [powI_ne _ (by decide), pE_pw]
  unfold inv
  rw [pw_mul (by decide), pw_mod (by decide) (by decide) (d * 254)]
  congr 1
  omega
theorem byt_solve1 (m d : Nat) (F : Nat → ByteArray) (t : Nat) : byt (timesB (sumQ m F) (powI 2 (-(d : Int)))) t = solve1 d (synQ m (col F t)) := by
  rw [byt_times, byt_sumQ, inv_pE]; rfl
theorem byt_apart (m x y : Nat) (F : Nat → ByteArray) (t : Nat) : byt (apartF m F x y) t = solve2 x y (synP m (col F t)) (synQ m (col F t)) := by
  unfold apartF solve2
  rw [byt_times, byt_xor, byt_times, byt_sumQ, byt_sumP]
/-- the one at y is what makes P right, whichever is told first -/
theorem solve2_turn {d e : Nat} (h : d ≠ e) (hd : d < 16) (he : e < 16) (p q : UInt8) : solve2 e d p q = solve2 d e p q ^^^ p := by
  have h1 := (solve2_iff (Ne.symm h) he hd (solve2 e d p q) p q).2 rfl
  have h2 : (solve2 e d p q ^^^ p) ^^^ p = solve2 e d p q := by rw [UInt8.xor_assoc, UInt8.xor_self, UInt8.xor_zero]
  have h3 : mulU (solve2 e d p q ^^^ p) (pE d) ^^^ mulU ((solve2 e d p q ^^^ p) ^^^ p) (pE e) = q := by rw [h2, UInt8.xor_comm]; exact h1
  have h4 := (solve2_iff h hd he (solve2 e d p q ^^^ p) p q).1 h3
  rw [← h4, h2]
/-- columns of one length -/
def Lev (s n : Nat) (F : Nat → ByteArray) : Prop := ∀ i, i < n → (F i).size = s
theorem Lev.upd {s n j : Nat} {F : Nat → ByteArray} (h : Lev s n F) {x : ByteArray} (hx : x.size = s) : Lev s n (upd F j x) := fun i hi => by
  by_cases e : i = j
  · subst e; rw [upd_same]; exact hx
  · rw [upd_other _ _ e]; exact h i hi
theorem Lev.max {s m : Nat} {f : Nat → Nat} (hm : 1 ≤ m) (h : ∀ i, i < m → f i = s) : maxN m f = s :=
  Nat.le_antisymm (maxN_le fun i hi => by rw [h i hi]; exact Nat.le_refl _) (by have := le_maxN f (k := 0) (n := m) (by omega); rw [h 0 (by omega)] at this; exact this)
theorem Lev.sumP {s m : Nat} {F : Nat → ByteArray} (hm : 1 ≤ m) (h : Lev s (m + 2) F) : (sumP m F).size = s := by
  unfold Go.Proofs.Ytjephdeolifbpaa.sumP
  rw [xorB_size, addF_size, Lev.max hm fun i hi => h i (by omega), h m (by omega)]; omega
theorem Lev.sumQ {s m : Nat} {F : Nat → ByteArray} (hm : 1 ≤ m) (h : Lev s (m + 2) F) : (sumQ m F).size = s := by
  unfold Go.Proofs.Ytjephdeolifbpaa.sumQ
  rw [xorB_size, addF_size, Lev.max hm fun i hi => by rw [qT_size]; exact h i (by omega), h (m + 1) (by omega)]; omega
theorem Lev.Q {s m : Nat} {F : Nat → ByteArray} (hm : 1 ≤ m) (h : Lev s (m + 2) F) : (addF m (qT F)).size = s := by
  rw [addF_size, Lev.max hm fun i hi => by rw [qT_size]; exact h i (by omega)]
theorem Lev.stepP {s m : Nat} {F : Nat → ByteArray} (hm : 1 ≤ m) (h : Lev s (m + 2) F) (x : Nat) : Lev s (m + 2) (stepP m F x) := Lev.upd h (Lev.sumP hm h)
theorem Lev.stepQ {s m : Nat} {F : Nat → ByteArray} (hm : 1 ≤ m) (h : Lev s (m + 2) F) (x : Nat) : Lev s (m + 2) (stepQ m F x) := Lev.upd h (by rw [timesB_size]; exact Lev.sumQ hm h)
theorem Lev.stepR {s m : Nat} {F : Nat → ByteArray} (hm : 1 ≤ m) (h : Lev s (m + 2) F) (x : Nat) : Lev s (m + 2) (stepR m F x) := Lev.upd h (Lev.Q hm h)
theorem Lev.stepA {s m : Nat} {F : Nat → ByteArray} (hm : 1 ≤ m) (h : Lev s (m + 2) F) (x y : Nat) : Lev s (m + 2) (stepA m F x y) := Lev.upd h (by
  unfold apartF
  rw [timesB_size, xorB_size, timesB_size, Lev.sumQ hm h, Lev.sumP hm h]; omega)
theorem Lev.blank {s n ln : Nat} {f : Nat → ByteArray} {L : Nat → Int} (h : ∀ i, i < n → hasF ln L (i : Int) = false → (f i).size = s) : Lev s n (blankF f ln L s) := fun i hi => by
  cases e : hasF ln L (i : Int) with
  | true => rw [blankF_lost e, zeroT_size]
  | false => rw [blankF_kept e]; exact h i hi e
theorem col_blank (f : Nat → ByteArray) (ln : Nat) (L : Nat → Int) (s t : Nat) : col (blankF f ln L s) t = atB f ln L t := by
  funext i
  unfold col
  cases e : hasF ln L (i : Int) with
  | true => rw [blankF_lost e, zeroT_byt, atB_lost e]
  | false => rw [blankF_kept e, atB_kept e]
theorem upd_turn {α : Type} (b : Nat → α) {d e : Nat} (h : d ≠ e) (x y : α) : upd (upd b d x) e y = upd (upd b e y) d x := by
  funext i
  unfold upd
  by_cases h1 : i = d <;> by_cases h2 : i = e
  · omega
  · simp [h1, h]
  · simp [h2, Ne.symm h]
  · simp [h1, h2]
/-- the bytes of what is filled decide -/
theorem done_of {m ln s : Nat} {f R : Nat → ByteArray} {L : Nat → Int} (e : szF f ln L (m + 2) = (s : Int)) (hR : Lev s (m + 2) R)
    (hb : ∀ t, col R t = fillB m (atB f ln L t) (lostD m ln L) (hasF ln L (m : Int)) (hasF ln L ((m : Int) + 1))) : ∀ i, i < m + 2 → R i = fillF (m + 2) f ln L i := by
  intro i hi
  refine byt_ext (by rw [fillF_size e, hR i hi]) fun t => ?_
  by_cases ht : t < s
  · rw [fillF_byt e ht, rowsR_eq, ← hb t]; rfl
  · rw [byt_past (by rw [hR i hi]; omega), byt_past (by rw [fillF_size e]; omega)]
section
variable {m ln s : Nat} {f : Nat → ByteArray} {L : Nat → Int}
theorem synP_upd {b : Nat → UInt8} {d : Nat} (hd : d < m) (h0 : b d = 0) (v : UInt8) : synP m (upd b d v) = synP m b ^^^ v := by
  rw [synP_set (b := b) hd (fun i _ hne => upd_other _ _ hne) (upd_other _ _ (by omega)), upd_same, h0, UInt8.zero_xor]
theorem done_p (hm : 1 ≤ m) (e : szF f ln L (m + 2) = (s : Int)) (hs : ∀ i, i < m + 2 → hasF ln L (i : Int) = false → (f i).size = s) {d : Nat} (hD : lostD m ln L = [d]) (hp : hasF ln L (m : Int) = false) (hq : hasF ln L ((m : Int) + 1) = false) :
    ∀ i, i < m + 2 → stepP m (blankF f ln L s) d i = fillF (m + 2) f ln L i := by
  refine done_of e (Lev.stepP hm (Lev.blank hs) d) fun t => ?_
  rw [hD, hp, hq]
  unfold stepP fillB
  rw [col_upd, byt_sumP, col_blank, fixPQ_ff]; rfl
theorem done_pp (hm : 1 ≤ m) (e : szF f ln L (m + 2) = (s : Int)) (hs : ∀ i, i < m + 2 → hasF ln L (i : Int) = false → (f i).size = s) (hD : lostD m ln L = []) (hp : hasF ln L (m : Int) = true) (hq : hasF ln L ((m : Int) + 1) = false) :
    ∀ i, i < m + 2 → stepP m (blankF f ln L s) m i = fillF (m + 2) f ln L i := by
  refine done_of e (Lev.stepP hm (Lev.blank hs) m) fun t => ?_
  rw [hD, hp, hq]
  unfold stepP fillB
  rw [col_upd, byt_sumP, col_blank, fixPQ_tf]
  show _ = upd (atB f ln L t) m (atB f ln L t m ^^^ synP m (atB f ln L t))
  rw [atB_lost hp, UInt8.zero_xor]
theorem done_q (hm : 1 ≤ m) (e : szF f ln L (m + 2) = (s : Int)) (hs : ∀ i, i < m + 2 → hasF ln L (i : Int) = false → (f i).size = s) (hD : lostD m ln L = []) (hp : hasF ln L (m : Int) = false) (hq : hasF ln L ((m : Int) + 1) = true) :
    ∀ i, i < m + 2 → stepR m (blankF f ln L s) (m + 1) i = fillF (m + 2) f ln L i := by
  have hq' : hasF ln L ((m + 1 : Nat) : Int) = true := by rw [show ((m + 1 : Nat) : Int) = (m : Int) + 1 from by omega]; exact hq
  refine done_of e (Lev.stepR hm (Lev.blank hs) (m + 1)) fun t => ?_
  rw [hD, hp, hq]
  unfold stepR fillB
  rw [col_upd, byt_Q, col_blank, fixPQ_ft]
  show _ = upd (atB f ln L t) (m + 1) (atB f ln L t (m + 1) ^^^ synQ m (atB f ln L t))
  unfold synQ
  rw [atB_lost hq', UInt8.zero_xor, UInt8.zero_xor]
theorem done_dp (hm : 1 ≤ m) (e : szF f ln L (m + 2) = (s : Int)) (hs : ∀ i, i < m + 2 → hasF ln L (i : Int) = false → (f i).size = s) {d : Nat} (hd : d < m) (hD : lostD m ln L = [d]) (hp : hasF ln L (m : Int) = true) (hq : hasF ln L ((m : Int) + 1) = false) :
    ∀ i, i < m + 2 → stepP m (stepQ m (blankF f ln L s) d) m i = fillF (m + 2) f ln L i := by
  refine done_of e (Lev.stepP hm (Lev.stepQ hm (Lev.blank hs) d) m) fun t => ?_
  rw [hD, hp, hq]
  unfold stepP fillB
  rw [col_upd, byt_sumP, fixPQ_tf]
  unfold stepQ
  rw [col_upd, byt_solve1, col_blank]
  show _ = upd (upd (atB f ln L t) d (solve1 d (synQ m (atB f ln L t)))) m (upd (atB f ln L t) d (solve1 d (synQ m (atB f ln L t))) m ^^^ _)
  rw [upd_other _ (i := m) (k := d) _ (by omega), atB_lost hp, UInt8.zero_xor]; rfl
theorem done_dq (hm : 1 ≤ m) (e : szF f ln L (m + 2) = (s : Int)) (hs : ∀ i, i < m + 2 → hasF ln L (i : Int) = false → (f i).size = s) {d : Nat} (hd : d < m) (hD : lostD m ln L = [d]) (hp : hasF ln L (m : Int) = false) (hq : hasF ln L ((m : Int) + 1) = true) :
    ∀ i, i < m + 2 → stepR m (stepP m (blankF f ln L s) d) (m + 1) i = fillF (m + 2) f ln L i := by
  have hq' : hasF ln L ((m + 1 : Nat) : Int) = true := by rw [show ((m + 1 : Nat) : Int) = (m : Int) + 1 from by omega]; exact hq
  refine done_of e (Lev.stepR hm (Lev.stepP hm (Lev.blank hs) d) (m + 1)) fun t => ?_
  rw [hD, hp, hq]
  unfold stepR fillB
  rw [col_upd, byt_Q, fixPQ_ft]
  unfold stepP
  rw [col_upd, byt_sumP, col_blank]
  show _ = upd (upd (atB f ln L t) d (synP m (atB f ln L t))) (m + 1) (upd (atB f ln L t) d (synP m (atB f ln L t)) (m + 1) ^^^ synQ m (upd (atB f ln L t) d (synP m (atB f ln L t))))
  unfold synQ
  rw [upd_other _ (i := m + 1) (k := d) _ (by omega), atB_lost hq', UInt8.zero_xor, UInt8.zero_xor]
theorem done_pq (hm : 1 ≤ m) (e : szF f ln L (m + 2) = (s : Int)) (hs : ∀ i, i < m + 2 → hasF ln L (i : Int) = false → (f i).size = s) (hD : lostD m ln L = []) (hp : hasF ln L (m : Int) = true) (hq : hasF ln L ((m : Int) + 1) = true) :
    ∀ i, i < m + 2 → stepR m (stepP m (blankF f ln L s) m) (m + 1) i = fillF (m + 2) f ln L i := by
  have hq' : hasF ln L ((m + 1 : Nat) : Int) = true := by rw [show ((m + 1 : Nat) : Int) = (m : Int) + 1 from by omega]; exact hq
  refine done_of e (Lev.stepR hm (Lev.stepP hm (Lev.blank hs) m) (m + 1)) fun t => ?_
  rw [hD, hp, hq]
  unfold stepR fillB
  rw [col_upd, byt_Q, fixPQ_tt]
  unfold stepP
  rw [col_upd, byt_sumP, col_blank]
  show _ = upd (upd (atB f ln L t) m (atB f ln L t m ^^^ synP m (atB f ln L t))) (m + 1) (atB f ln L t (m + 1) ^^^ synQ m (atB f ln L t))
  rw [atB_lost hp, atB_lost hq', UInt8.zero_xor, UInt8.zero_xor]
  congr 1
  unfold synQ
  rw [atB_lost hq', UInt8.zero_xor]
  exact xorN_congr fun i hi => by rw [upd_other _ _ (by omega)]
theorem done_dd (hm : 1 ≤ m) (e : szF f ln L (m + 2) = (s : Int)) (hs : ∀ i, i < m + 2 → hasF ln L (i : Int) = false → (f i).size = s) {d d' : Nat} (hd : d < m) (hd' : d' < m) (hne : d ≠ d') (hs16 : m < 16) (hl : hasF ln L (d : Int) = true) (_hl' : hasF ln L (d' : Int) = true) (hD : lostD m ln L = [d, d'] ∨ lostD m ln L = [d', d]) (hp : hasF ln L (m : Int) = false) (hq : hasF ln L ((m : Int) + 1) = false) :
    ∀ i, i < m + 2 → stepP m (stepA m (blankF f ln L s) d d') d' i = fillF (m + 2) f ln L i := by
  refine done_of e (Lev.stepP hm (Lev.stepA hm (Lev.blank hs) d d') d') fun t => ?_
  unfold stepP
  rw [col_upd, byt_sumP]
  unfold stepA
  rw [col_upd, byt_apart, col_blank, synP_upd hd (atB_lost hl), hp, hq]
  unfold fillB
  rw [fixPQ_ff]
  rcases hD with hD | hD
  · rw [hD, UInt8.xor_comm]; rfl
  · rw [hD]
    show _ = upd (upd (atB f ln L t) d' (solve2 d' d (synP m (atB f ln L t)) (synQ m (atB f ln L t)))) d (solve2 d' d (synP m (atB f ln L t)) (synQ m (atB f ln L t)) ^^^ synP m (atB f ln L t))
    rw [solve2_turn hne (by omega) (by omega), upd_turn _ hne, UInt8.xor_assoc, UInt8.xor_self, UInt8.xor_zero, UInt8.xor_comm (synP m (atB f ln L t))]
end
end Go.Proofs.Ytjephdeolifbpaa.Rf
