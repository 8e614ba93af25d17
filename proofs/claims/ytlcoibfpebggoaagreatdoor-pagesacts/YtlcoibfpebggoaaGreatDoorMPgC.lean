/- Several texts in one. What becomes of a page that is saved on a drive that lives, and of one that does not: plain. What is asked of a drive on which pages are saved, and that it stays so: plain. Eight drives in one memory, four of the program and four of the document, told by plain ones: the rows that name them, and what a call of either makes of them. Plain parts first. What is asked of Save, Load, All and Join of pages, of the program's as of the document's own: plain propositions. -/
import Derived.Test.YtlcoibfpebggoaaGreatDoorPgDr
import Derived.Test.YtlcoibfpebggoaaGreatDoorMDrvC
import Derived.Test.YtlcoibfpebggoaaGreatDoorMKitB
import Derived.Test.YtlcoibfpebggoaaGreatDoorDrvMany
namespace Go.Proofs.YtlcoibfpebggoaaGreatDoor
open Go.RowKit

namespace Dr
/-- a drive that lives, none of whose sectors is spoilt, whose writes are all flushed -/
structure Still (D : Dr) (n : Nat) : Prop where
  live : D.Live n
  spoilt : ∀ i, D.spoilt.getD i false = false
  none : ∀ i, D.writes i = []
theorem Still.fresh (n : Nat) : (Dr.fresh n).Still n := ⟨Live.fresh n, fresh_spoilt n, fun _ => rfl⟩
theorem Live.keep {D : Dr} {n : Nat} (h : D.Live n) (h2 : 2 < n) (t : List UInt8) : D.keepE t = 0 ∧ D.keepD t = (D.put 2 t).settle fun _ c => c := by
  have ht : D.takeE 2 64 = 0 := h.take (i := 2) (by omega) rfl
  have hr : (D.write 2 t).runsE = 0 := by rw [h.write]; exact (h.put _ _).run
  have hf : (D.write 2 t).flush = (D.put 2 t).settle fun _ c => c := by rw [h.write, (h.put _ _).flush]
  unfold keepE keepD
  rw [if_pos ht, if_pos ht, hr, if_pos rfl, hf]
  exact ⟨rfl, rfl⟩
theorem Live.kept {D : Dr} {n : Nat} (h : D.Live n) (t : List UInt8) : ((D.put 2 t).settle fun _ c => c).Live n := (h.put _ _).settle _
theorem Live.kept_last {D : Dr} {n : Nat} (h : D.Live n) (h2 : 2 < n) (t : List UInt8) : ((D.put 2 t).settle fun _ c => c).last 2 = t := by
  have e : ((D.put 2 t).settle fun _ c => c).last 2 = ((D.put 2 t).settle fun _ c => c).safe.getD 2 [] := if_pos rfl
  rw [e]
  exact (flush_one (h.put _ _) h2).trans (put_last _ _ _)
theorem Live.kept_spoilt {D : Dr} {n : Nat} (_h : D.Live n) (h2 : 2 < n) (hl : D.spoilt.length = n) (t : List UInt8) : ((D.put 2 t).settle fun _ c => c).spoilt.getD 2 false = false :=
  getD_set_same (by omega)
theorem Still.kept {D : Dr} {n : Nat} (h : D.Still n) (t : List UInt8) : ((D.put 2 t).settle fun _ c => c).Still n :=
  ⟨h.live.kept t, fun i => put_spoilt D 2 t (h.spoilt i), fun _ => rfl⟩
/-- a page that may be is saved, and is there then -/
theorem Still.saved {D : Dr} {n : Nat} (h : D.Still n) (h2 : 2 < n) {p : Pge} (hev : p.ev < 18446744073709551616) (hb : p.bits.size = 8) :
    D.pgSaveE p = 0 ∧ (D.pgSaveD p).Still n ∧ (D.pgSaveD p).pgE = 0 ∧ (D.pgSaveD p).pgS = p := by
  obtain ⟨e1, e2⟩ := h.live.keep h2 (Pg.secT p).data.toList
  have hk := h.kept (Pg.secT p).data.toList
  have eD : D.pgSaveD p = (D.put 2 (Pg.secT p).data.toList).settle fun _ c => c := by unfold pgSaveD; rw [if_pos hb, e2]
  obtain ⟨r1, r2⟩ := hk.live.read h2 (hk.spoilt 2)
  rw [h.live.kept_last h2] at r2
  refine ⟨by unfold pgSaveE; rw [if_pos hb, e1], by rw [eD]; exact hk, ?_, ?_⟩
  · rw [eD]; unfold pgE
    rw [if_pos (show readE _ 2 = 0 from r1), show readS _ 2 = _ from r2, txt_data]
    exact Pg.decE_secT hev hb
  · rw [eD]; unfold pgS
    rw [if_pos (show readE _ 2 = 0 from r1), show readS _ 2 = _ from r2, txt_data]
    exact Pg.decS_secT hev hb
theorem Still.die {D : Dr} (hd : D.dead = true) {p : Pge} (hb : p.bits.size = 8) : D.pgSaveE p = 40 ∧ D.pgSaveD p = D ∧ D.pgE = 40 ∧ D.pgS = Pg.none := by
  have hr : D.runsE = 40 := by unfold runsE; rw [hd]; rfl
  have hR : D.reachE 2 = 40 := by unfold reachE; rw [hr]; rfl
  have ht : D.takeE 2 64 = 40 := by unfold takeE; rw [hR]; rfl
  have he : D.readE 2 = 40 := by unfold readE; rw [hR]; rfl
  have h1 : D.pgE = 40 := by unfold pgE; rw [he]; rfl
  refine ⟨by unfold pgSaveE keepE; rw [if_pos hb, ht]; rfl, by unfold pgSaveD keepD; rw [if_pos hb, ht]; rfl, h1, pgS_none (by rw [h1]; decide)⟩
end Dr
end Go.Proofs.YtlcoibfpebggoaaGreatDoor

namespace Go.Proofs.YtlcoibfpebggoaaGreatDoor
open Go.RowKit

/-- a drive whose power does not go, with room for a page, few of whose writes are under way -/
structure Dr.Fit11 (D : Dr) : Prop where
  goes : D.goes = false
  len : 2 < D.safe.length
  lens : ∀ i, (D.writes i).length < 1000000
theorem Dr.Fit11.save {D : Dr} (h : D.Fit11) (p : Pge) : (D.pgSaveD p).Fit11 := by
  unfold Dr.pgSaveD
  split
  · cases hd : D.dead with
    | true =>
      have hr : D.reachE 2 = 40 := by unfold Dr.reachE Dr.runsE; rw [hd]; rfl
      have ht : D.takeE 2 64 = 40 := by unfold Dr.takeE; rw [hr]; rfl
      rw [show D.keepD (Pg.secT p).data.toList = D by unfold Dr.keepD; rw [ht]; rfl]
      exact h
    | false =>
      have hv : D.Live D.safe.length := ⟨hd, h.goes, rfl⟩
      rw [(hv.keep h.len (Pg.secT p).data.toList).2]
      refine ⟨h.goes, ?_, fun i => by show (0 : Nat) < 1000000; decide⟩
      have e : ((D.put 2 (Pg.secT p).data.toList).settle fun _ c => c).safe.length = D.safe.length := Dr.safeAt_length _ _ _
      rw [e]; exact h.len
  · exact h
theorem Dr.Fit11.all {q : Who} {R : Nat → Dr} {n : Nat} (h : ∀ i, i < n → (R i).Fit11) (p : Pge) : ∀ j i, i < n → (Pg.allD q R p j i).Fit11
  | 0, i, hi => h i hi
  | j + 1, i, hi => by
    have ih := Dr.Fit11.all (q := q) h p j
    cases hq : q j with
    | none => rw [Pg.allD_none hq]; exact ih i hi
    | some k =>
      rw [Pg.allD_some hq]
      by_cases e : i = k
      · subst e; rw [swap1_same]; exact (ih i hi).save p
      · rw [swap1_other _ _ e]; exact ih i hi
/-- pages whose bits have another size turn nothing -/
theorem Pg.allD_bad {q : Who} {R : Nat → Dr} {p : Pge} (hb : p.bits.size ≠ 8) : ∀ j i, Pg.allD q R p j i = R i
  | 0, _ => rfl
  | j + 1, i => by
    have ih := Pg.allD_bad (q := q) (R := R) hb j
    cases hq : q j with
    | none => rw [Pg.allD_none hq]; exact ih i
    | some k =>
      rw [Pg.allD_some hq]
      by_cases e : i = k
      · subst e; rw [swap1_same]; unfold Dr.pgSaveD; rw [if_neg hb]; exact ih i
      · rw [swap1_other _ _ e]; exact ih i
/-- what All answers: on how many it went well, and the error -/
def Pg.allA (p : Pge) (n : Nat) : Nat × Nat := if p.bits.size = 8 then (n, Pg.allE n) else (0, 1)
/-- a list of drives: at each place one of them, or none -/
def Listed (L : List Value) (q : Who) (n : Nat) (ps : Nat → Nat) : Prop :=
  ∀ j, j < L.length → (q j = .none ∧ L[j]? = some (.pointer .none)) ∨ ∃ i, i < n ∧ q j = some i ∧ L[j]? = some (.pointer (some ⟨ps i, 0, .none⟩))
end Go.Proofs.YtlcoibfpebggoaaGreatDoor

namespace Go.Proofs.YtlcoibfpebggoaaGreatDoor
open Go.RowKit

namespace Dr
/-- sector 2 becomes t -/
def wr2 (D : Dr) (t : List UInt8) : Dr := if D.reachE 2 = 0 then D.put 2 t else D
/-- it is spoilt -/
def sp2 (D : Dr) : Dr := if D.reachE 2 = 0 then D.spoil 2 else D
end Dr
/-- what holds of a plain drive behind k calls -/
structure Inv11 (D : Dr) (k : Nat) : Prop where
  goes : D.goes = false
  left : D.left = 0
  len : D.safe.length = 3
  lens : ∀ i, (D.writes i).length ≤ k
theorem Inv11.fit {D : Dr} {k : Nat} (h : Inv11 D k) (hk : k ≤ 1000) : D.Fit11 := ⟨h.goes, by rw [h.len]; decide, fun i => by have := h.lens i; omega⟩
theorem Inv11.start : Inv11 (Dr.fresh 3) 0 := ⟨rfl, rfl, rfl, fun _ => Nat.le_refl _⟩
theorem Inv11.more {D : Dr} {k : Nat} (h : Inv11 D k) : Inv11 D (k + 1) := ⟨h.goes, h.left, h.len, fun i => Nat.le_succ_of_le (h.lens i)⟩
theorem Inv11.put {D : Dr} {k : Nat} (h : Inv11 D k) (i : Nat) (t : List UInt8) : Inv11 (D.put i t) (k + 1) := by
  refine ⟨h.goes, h.left, h.len, fun j => ?_⟩
  show (if j = i then D.writes i ++ [t] else D.writes j).length ≤ k + 1
  split
  · have := h.lens i; simp; exact this
  · exact Nat.le_succ_of_le (h.lens j)
theorem Inv11.wr2 {D : Dr} {k : Nat} (h : Inv11 D k) (t : List UInt8) : Inv11 (D.wr2 t) (k + 1) := by
  unfold Dr.wr2; split
  · exact h.put _ _
  · exact h.more
theorem Inv11.sp2 {D : Dr} {k : Nat} (h : Inv11 D k) : Inv11 D.sp2 (k + 1) := by
  unfold Dr.sp2; split
  · exact ⟨h.goes, h.left, h.len, fun j => Nat.le_succ_of_le (h.lens j)⟩
  · exact h.more
theorem Inv11.die {D : Dr} {k : Nat} (h : Inv11 D k) : Inv11 D.die (k + 1) := ⟨h.goes, h.left, h.len, fun j => Nat.le_succ_of_le (h.lens j)⟩
theorem Inv11.save {D : Dr} {k : Nat} (h : Inv11 D k) (p : Pge) : Inv11 (D.pgSaveD p) (k + 1) := by
  unfold Dr.pgSaveD
  split
  · cases hd : D.dead with
    | true =>
      have hr : D.reachE 2 = 40 := by unfold Dr.reachE Dr.runsE; rw [hd]; rfl
      have ht : D.takeE 2 64 = 40 := by unfold Dr.takeE; rw [hr]; rfl
      rw [show D.keepD (Pg.secT p).data.toList = D by unfold Dr.keepD; rw [ht]; rfl]
      exact h.more
    | false =>
      have hv : D.Live D.safe.length := ⟨hd, h.goes, rfl⟩
      rw [(hv.keep (by rw [h.len]; decide) (Pg.secT p).data.toList).2]
      refine ⟨h.goes, h.left, ?_, fun i => Nat.zero_le _⟩
      exact (Dr.safeAt_length _ _ _).trans h.len
  · exact h.more
theorem Inv11.all {q : Who} {R : Nat → Dr} {k n : Nat} (h : ∀ i, i < n → Inv11 (R i) k) (p : Pge) : ∀ j i, i < n → Inv11 (Pg.allD q R p j i) (k + j)
  | 0, i, hi => h i hi
  | j + 1, i, hi => by
    have ih := Inv11.all (q := q) h p j
    cases hq : q j with
    | none => rw [Pg.allD_none hq]; exact (ih i hi).more
    | some l =>
      rw [Pg.allD_some hq]
      by_cases e : i = l
      · subst e; rw [swap1_same]; exact (ih i hi).save p
      · rw [swap1_other _ _ e]; exact (ih i hi).more

/-- which drive stands where in the rows: four, and none -/
def who5 : Who := fun j => if j < 4 then some j else .none
def lst (n : Nat) (f : Nat → Nat) : List Value := (List.range n).map fun j => .pointer (some ⟨f j, 0, none⟩)
def lst5 (f : Nat → Nat) : List Value := lst 4 f ++ [.pointer none]
theorem lst_length (n : Nat) (f : Nat → Nat) : (lst n f).length = n := by simp [lst]
theorem lst5_length (f : Nat → Nat) : (lst5 f).length = 5 := rfl
theorem lst_grow (n : Nat) (f : Nat → Nat) (p : Nat) : lst (n + 1) (swap1 f n p) = lst n f ++ [.pointer (some ⟨p, 0, none⟩)] := by
  unfold lst
  rw [List.range_succ, List.map_append, List.map_cons, List.map_nil, swap1_same]
  congr 1
  refine List.map_congr_left fun j hj => ?_
  rw [swap1_other _ _ (by have := List.mem_range.1 hj; omega)]
theorem lst_at {n : Nat} (f : Nat → Nat) {j : Nat} (h : j < n) : (lst n f)[j]? = some (.pointer (some ⟨f j, 0, none⟩)) := by simp [lst, h]
theorem lst5_at (f : Nat → Nat) {j : Nat} (h : j < 4) : (lst5 f)[j]? = some (.pointer (some ⟨f j, 0, none⟩)) := by
  unfold lst5
  rw [List.getElem?_append_left (by rw [lst_length]; exact h)]
  exact lst_at f h
theorem listed5 (f : Nat → Nat) : Listed (lst5 f) who5 4 f := by
  intro j hj
  rw [lst5_length] at hj
  by_cases h : j < 4
  · exact .inr ⟨j, h, if_pos h, lst5_at f h⟩
  · have : j = 4 := by omega
    subst this
    exact .inl ⟨rfl, rfl⟩
/-- a thing of its own in new blocks, at i -/
theorem Many.fresh {w w' : World} {B m : Nat} {T : Nat → Thing} (h : Many w B m T) {i : Nat} (_hi : i < m) {T' : Thing} {G : Nat → Prop} (hb : Below w.heap.size w w') (ht : T'.is w' G) (hG : ∀ k, G k → w.heap.size ≤ k) : Many w' B m (swap1 T i T') := by
  obtain ⟨F, h1, h2, h3, h4⟩ := h
  refine ⟨swap1 F i (fun k => G k ∧ k < w'.heap.size), fun j hj => ?_, fun j hj k hk => ?_, fun j l hj hl hne k hk hl' => ?_, Nat.le_trans h4 hb.size⟩
  · by_cases e : j = i
    · subst e; rw [swap1_same, swap1_same]; exact T'.tight ht
    · rw [swap1_other _ _ e, swap1_other _ _ e]; exact (T j).below (h1 j hj) hb
  · by_cases e : j = i
    · subst e; rw [swap1_same] at hk; exact ⟨Nat.le_trans h4 (hG k hk.1), hk.2⟩
    · rw [swap1_other _ _ e] at hk; exact ⟨(h2 j hj k hk).1, Nat.lt_of_lt_of_le (h2 j hj k hk).2 hb.size⟩
  · by_cases e : j = i
    · subst e
      rw [swap1_same] at hk; rw [swap1_other _ _ (Ne.symm hne)] at hl'
      have := (h2 l hl k hl').2; have := hG k hk.1; omega
    · rw [swap1_other _ _ e] at hk
      by_cases e2 : l = i
      · subst e2
        rw [swap1_same] at hl'
        have := (h2 j hj k hk).2; have := hG k hl'.1; omega
      · rw [swap1_other _ _ e2] at hl'
        exact h3 j l hj hl hne k hk hl'
/-- nothing yet: m places -/
theorem Many.empty (w : World) {B : Nat} (hB : B ≤ w.heap.size) (m : Nat) : Many w B m (fun _ => Thing.none) := ⟨fun _ _ => False, fun _ _ => trivial, fun _ _ _ h => h.elim, fun _ _ _ _ _ _ h => h.elim, hB⟩
theorem Inv11.le {D : Dr} {k l : Nat} (h : Inv11 D k) (hl : k ≤ l) : Inv11 D l := ⟨h.goes, h.left, h.len, fun i => Nat.le_trans (h.lens i) hl⟩
/-- one drive has turned: what holds of all of them -/
theorem inv_put {X : Nat → Dr} {k : Nat} (h : ∀ i, i < 4 → Inv11 (X i) (5 * k)) {m : Nat} (_hm : m < 4) {D : Dr} (hD : Inv11 D (5 * k + 1)) : ∀ i, i < 4 → Inv11 (swap1 X m D i) (5 * (k + 1)) := fun i hi => by
  by_cases e : i = m
  · subst e; rw [swap1_same]; exact hD.le (by omega)
  · rw [swap1_other _ _ e]; exact (h i hi).le (by omega)
theorem inv_all {X : Nat → Dr} {k : Nat} (h : ∀ i, i < 4 → Inv11 (X i) (5 * k)) (p : Pge) : ∀ i, i < 4 → Inv11 (Pg.allD who5 X p 5 i) (5 * (k + 1)) := fun i hi => (Inv11.all (n := 4) h p 5 i hi).le (by omega)
end Go.Proofs.YtlcoibfpebggoaaGreatDoor

namespace Go.Proofs.YtlcoibfpebggoaaGreatDoor
open Go.RowKit

/-! What is asked of the four calls, of the program's as of the document's own. -/
def SaveDoes (f : FuncId) (mk : Nat → Dr → Thing) : Prop := ∀ {w : World} {r : Nat} {D : Dr} {F : Nat → Prop}, (mk r D).is w F → D.Fit11 → ∀ p : Pge, p.ev < 18446744073709551616 →
  Calls Tryz.prog f #[.pointer (some ⟨r, 0, none⟩), pgV p] w fun e w' => e = .returned (.int .i64 (D.pgSaveE p : Nat)) ∧ (mk r (D.pgSaveD p)).is w' (Plus F w.heap.size) ∧ Only F w w'
def LoadDoes (f : FuncId) (mk : Nat → Dr → Thing) : Prop := ∀ {w : World} {r : Nat} {D : Dr} {F : Nat → Prop}, (mk r D).is w F → D.goes = false →
  Calls Tryz.prog f #[.pointer (some ⟨r, 0, none⟩)] w fun e w' => e = .returned (.tuple #[pgV D.pgS, .int .i64 (D.pgE : Nat)]) ∧ Below w.heap.size w w'
def AllDoes (f : FuncId) (mk : Nat → Dr → Thing) (t : TypeId) : Prop := ∀ {w : World} {B m : Nat} {T : Nat → Thing}, Many w B m T → ∀ (ri o n : Nat), o + n ≤ m → ri < o → ∀ (a : Option Addr) (cap : Nat) (L : List Value), T ri = rowT t (.slice a L.length cap) L →
  ∀ (rp : Nat → Nat) (R : Nat → Dr), (∀ i, i < n → T (o + i) = mk (rp i) (R i)) → ∀ q : Who, Listed L q n rp → (∀ i, i < n → (R i).Fit11) → L.length ≤ 1000 → ∀ p : Pge, p.ev < 18446744073709551616 →
    Calls Tryz.prog f #[.slice a L.length cap, pgV p] w fun e w' =>
      e = .returned (.tuple #[.int .i64 ((Pg.allA p (Pg.allN q R p L.length)).1 : Nat), .int .i64 ((Pg.allA p (Pg.allN q R p L.length)).2 : Nat)]) ∧ Many w' B m (spread T o n (fun i => mk (rp i) (Pg.allD q R p L.length i))) ∧ Only (fun k => B ≤ k ∧ k < w.heap.size) w w'
def JoinDoes (f : FuncId) (mk : Nat → Dr → Thing) (t : TypeId) : Prop := ∀ {w : World} {B m : Nat} {T : Nat → Thing}, Many w B m T → ∀ (ri o n : Nat), o + n ≤ m → ri < o → ∀ (a : Option Addr) (cap : Nat) (L : List Value), T ri = rowT t (.slice a L.length cap) L →
  ∀ (rp : Nat → Nat) (R : Nat → Dr), (∀ i, i < n → T (o + i) = mk (rp i) (R i)) → ∀ q : Who, Listed L q n rp → (∀ i, i < n → (R i).goes = false) → L.length ≤ 1000 → ∀ v : Nat, v < 18446744073709551616 →
    Calls Tryz.prog f #[.slice a L.length cap, .int .u64 (v : Int)] w fun e w' => e = .returned (.tuple #[.string ⟨(Pg.joinL q R v L.length).toArray⟩, .bool (Pg.joinB q R v L.length)]) ∧ Below w.heap.size w w'
/-- what is asked of the program -/
structure PgDoes : Prop where
  save : SaveDoes 14 drvT
  load : LoadDoes 25 drvT
  all : AllDoes 22 drvT 39
  join : JoinDoes 27 drvT 39
end Go.Proofs.YtlcoibfpebggoaaGreatDoor
