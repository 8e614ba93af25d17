/- A write, and a flush, of either drive: what is answered, and what the drive is then. -/
import Derived.Test.YtjmeiifogblmoaaGreatDoorMDrvE
import Derived.Test.YtjmeiifogblmoaaGreatDoorMRefB
namespace Go.Proofs.YtjmeiifogblmoaaGreatDoor
open Go.RowKit

namespace Dr
/-- no sector has more writes that are not flushed -/
def Few (D : Dr) (B : Nat) : Prop := ∀ i, (D.writes i).length ≤ B
theorem Few.mono {D : Dr} {B C : Nat} (h : D.Few B) (hb : B ≤ C) : D.Few C := fun i => Nat.le_trans (h i) hb
theorem Few.put {D : Dr} {B : Nat} (h : D.Few B) (i : Nat) (s : List UInt8) : (D.put i s).Few (B + 1) := fun j => by
  show (if j = i then D.writes i ++ [s] else D.writes j).length ≤ B + 1
  split
  · rw [List.length_append]; have := h i; simp; omega
  · have := h j; omega
theorem Few.write {D : Dr} {B : Nat} (h : D.Few B) (i : Nat) (s : List UInt8) : (D.write i s).Few (B + 1) := h.put i s
theorem Few.wr1 {x : Nat × Dr} {B : Nat} (h : x.2.Few B) (i : Nat) (s : List UInt8) : (Dr.wr1 x i s).2.Few (B + 1) := by
  unfold Dr.wr1
  split
  · split
    · exact h.write i s
    · exact h.mono (Nat.le_succ _)
  · exact h.mono (Nat.le_succ _)
theorem Few.wrTo {x : Nat × Dr} {B : Nat} (h : x.2.Few B) (p : Nat → Nat) (s : Nat → List UInt8) : ∀ k, (Dr.wrTo x p s k).2.Few (B + k)
  | 0 => h
  | k + 1 => (Few.wrTo h p s k).wr1 _ _
theorem Few.fl1 {x : Nat × Dr} {B : Nat} (h : x.2.Few B) : (Dr.fl1 x).2.Few B := by
  unfold Dr.fl1
  split
  · split
    · exact fun i => Nat.zero_le _
    · exact h
  · exact h
/-- what a drive keeps in all of this -/
theorem wr1_keeps (x : Nat × Dr) (i : Nat) (s : List UInt8) : (wr1 x i s).2.safe = x.2.safe ∧ (wr1 x i s).2.dead = x.2.dead ∧ (wr1 x i s).2.goes = x.2.goes := by
  unfold wr1
  split
  · split
    · exact ⟨rfl, rfl, rfl⟩
    · exact ⟨rfl, rfl, rfl⟩
  · exact ⟨rfl, rfl, rfl⟩
theorem wrTo_keeps (x : Nat × Dr) (p : Nat → Nat) (s : Nat → List UInt8) : ∀ k, (wrTo x p s k).2.safe = x.2.safe ∧ (wrTo x p s k).2.dead = x.2.dead ∧ (wrTo x p s k).2.goes = x.2.goes
  | 0 => ⟨rfl, rfl, rfl⟩
  | k + 1 => by
    obtain ⟨a, b, c⟩ := wrTo_keeps x p s k
    obtain ⟨d, e, f⟩ := wr1_keeps (wrTo x p s k) (p k) (s k)
    exact ⟨d.trans a, e.trans b, f.trans c⟩
theorem fl1_keeps (x : Nat × Dr) : (fl1 x).2.safe.length = x.2.safe.length ∧ (fl1 x).2.dead = x.2.dead ∧ (fl1 x).2.goes = x.2.goes := by
  unfold fl1
  split
  · split
    · exact ⟨safeAt_length _ _ _, rfl, rfl⟩
    · exact ⟨rfl, rfl, rfl⟩
  · exact ⟨rfl, rfl, rfl⟩
end Dr
section
variable {w w1 w2 : World} {rd : Nat} {D D1 D2 : Dr} {G : Nat → Prop}
/-- what a call leaves of the document's own drive -/
def REnd (w w' : World) (rd : Nat) (D' : Dr) (G : Nat → Prop) : Prop := RefAt w' rd D' (Plus G w.heap.size) ∧ Only G w w'
theorem plus_up {F : Nat → Prop} {a b : Nat} (hs : a ≤ b) : ∀ k, Plus F b k → Plus F a k := fun _ hk => hk.imp id fun h => Nat.le_trans hs h
theorem REnd.of_below (h : RefAt w rd D G) (hb : Below w.heap.size w w1) : REnd w w1 rd D G := ⟨(h.below hb).mono fun _ hk => .inl hk, Only.of_below hb G⟩
theorem REnd.of_step (hd : RefAt w1 rd D1 (Plus G w.heap.size)) (ho : Only G w w1) : REnd w w1 rd D1 G := ⟨hd, ho⟩
theorem REnd.of_same (hd : RefAt w1 rd D1 G) (ho : Only G w w1) : REnd w w1 rd D1 G := ⟨hd.mono fun _ hk => .inl hk, ho⟩
theorem REnd.below (h : REnd w w1 rd D1 G) (hb : Below w1.heap.size w1 w2) : REnd w w2 rd D1 G := ⟨h.1.below hb, h.2.trans (Only.of_below hb _)⟩
theorem REnd.step (h : REnd w w1 rd D1 G) (hd : RefAt w2 rd D2 (Plus (Plus G w.heap.size) w1.heap.size)) (ho : Only (Plus G w.heap.size) w1 w2) : REnd w w2 rd D2 G :=
  ⟨hd.mono fun _ hk => hk.elim id fun h1 => .inr (Nat.le_trans h.2.size h1), h.2.trans ho⟩
theorem REnd.same (h : REnd w w1 rd D1 G) (hd : RefAt w2 rd D2 (Plus G w.heap.size)) (ho : Only (Plus G w.heap.size) w1 w2) : REnd w w2 rd D2 G := ⟨hd, h.2.trans ho⟩
/-- a write of the document's own drive -/
theorem rWr1 (h : RefAt w rd D G) (hg : D.goes = false) (hf : D.Few 1000000) (i : Nat) (s : ByteArray) (hs : s.size = 64) :
    Calls Tryz.prog 22 #[.pointer (some ⟨rd, 0, none⟩), .int .i64 (i : Nat), .string s] w fun e w' => e = .returned (.int .i64 ((Dr.wr1 (0, D) i s.data.toList).1 : Nat)) ∧ RefAt w' rd (Dr.wr1 (0, D) i s.data.toList).2 (Plus G w.heap.size) ∧ Only G w w' := by
  by_cases hr : D.reachE i = 0
  · have hi : i < D.safe.length := by
      refine Decidable.byContradiction fun hn => ?_
      unfold Dr.reachE Dr.hasB at hr
      split at hr
      · have : decide ((i : Int) < (D.safe.length : Int)) = false := by simp; omega
        rw [this] at hr
        simp at hr
      · contradiction
    have hw : D.write i s.data.toList = D.put i s.data.toList := by
      show (D.put i s.data.toList).spend = D.put i s.data.toList
      have : (D.put i s.data.toList).goes = false := hg
      generalize D.put i s.data.toList = E at *
      cases E; simp only at this; subst this; rfl
    rw [Dr.wr1_yes hr, hw]
    exact rWrite_yes h hg i hi hr (hf i) s hs
  · rw [Dr.wr1_no hr]
    refine (rWrite_no h hg i s hr).mono ?_
    rintro e w' ⟨rfl, rfl⟩
    exact ⟨rfl, h.mono fun _ hk => .inl hk, Only.refl _ _⟩
/-- a flush of it -/
theorem rFl1 (h : RefAt w rd D G) (hg : D.goes = false) (hf : D.Few 1000000) :
    Calls Tryz.prog 48 #[.pointer (some ⟨rd, 0, none⟩)] w fun e w' => e = .returned (.int .i64 ((Dr.fl1 (0, D)).1 : Nat)) ∧ RefAt w' rd (Dr.fl1 (0, D)).2 G ∧ Only G w w' := by
  cases hd : D.dead with
  | true =>
    have hr : D.runsE = 40 := by unfold Dr.runsE; rw [hd]; rfl
    rw [Dr.fl1_no (by rw [hr]; decide), hr]
    refine (rFlush_no h hd).mono ?_
    rintro e w' ⟨rfl, rfl⟩
    exact ⟨rfl, h, Only.refl _ _⟩
  | false =>
    have hr : D.runsE = 0 := by unfold Dr.runsE; rw [hd, hg]; rfl
    have hw : D.flush = D.settle fun _ c => c := by
      show (D.settle fun _ c => c).spend = _
      have : (D.settle fun _ c => c).goes = false := hg
      generalize (D.settle fun _ c => c) = E at *
      cases E; simp only at this; subst this; rfl
    rw [Dr.fl1_yes hr, hw]
    exact rFlush_yes h hg hd hf
end
section
variable {w w1 w2 : World} {p : Nat} {D D1 D2 : Dr} {F : Nat → Prop}
/-- a write of the program's drive -/
theorem pWr1 (h : DriveAt w p D F) (hf : D.Few 1000000) (i : Nat) (s : ByteArray) (hs : s.size = 64) :
    Calls Tryz.prog 20 #[.pointer (some ⟨p, 0, none⟩), .int .i64 (i : Nat), .string s] w fun e w' => e = .returned (.int .i64 ((Dr.wr1 (0, D) i s.data.toList).1 : Nat)) ∧ DriveAt w' p (Dr.wr1 (0, D) i s.data.toList).2 (Plus F w.heap.size) ∧ Only F w w' := by
  have ht : D.takeE i s.size = D.reachE i := by
    unfold Dr.takeE
    split
    · rename_i h0; exact h0.symm
    · rfl
  by_cases hr : D.reachE i = 0
  · have hi : i < D.safe.length := by
      refine Decidable.byContradiction fun hn => ?_
      unfold Dr.reachE Dr.hasB at hr
      split at hr
      · have : decide ((i : Int) < (D.safe.length : Int)) = false := by simp; omega
        rw [this] at hr
        simp at hr
      · contradiction
    rw [Dr.wr1_yes hr]
    exact write_yes h i s (ht.trans hr) hi (hf i)
  · rw [Dr.wr1_no hr]
    have := write_no h i s (by rw [ht]; exact hr)
    rw [ht] at this
    refine this.mono ?_
    rintro e w' ⟨rfl, rfl⟩
    exact ⟨rfl, h.mono fun _ hk => .inl hk, Only.refl _ _⟩
/-- a flush of it -/
theorem pFl1 (h : DriveAt w p D F) (hf : D.Few 1000000) :
    Calls Tryz.prog 39 #[.pointer (some ⟨p, 0, none⟩)] w fun e w' => e = .returned (.int .i64 ((Dr.fl1 (0, D)).1 : Nat)) ∧ DriveAt w' p (Dr.fl1 (0, D)).2 F ∧ Only F w w' := by
  by_cases hr : D.runsE = 0
  · rw [Dr.fl1_yes hr]
    exact flush_yes h hr hf
  · rw [Dr.fl1_no hr]
    refine (flush_no h hr).mono ?_
    rintro e w' ⟨rfl, rfl⟩
    exact ⟨rfl, h, Only.refl _ _⟩
end
end Go.Proofs.YtjmeiifogblmoaaGreatDoor
