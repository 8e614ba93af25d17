import Derived.Test.YtdgkhjgnjfgnlaaGreatDrvSettle
import Derived.BigQuiet
namespace Go.Proofs.YtdgkhjgnjfgnlaaGreat
open Go.RowKit Go.Maps
theorem DriveAt.tight {w : World} {p : Nat} {D : Dr} {F : Nat → Prop} (h : DriveAt w p D F) : DriveAt w p D (fun k => F k ∧ k < w.heap.size) := by
 obtain ⟨sb, pb, mb, hd, hin, hf⟩ := h
 exact ⟨sb, pb, mb, hd, hin, fun k hk => ⟨hf k hk, hin.lt k hk⟩⟩
set_option maxRecDepth 100000 in
set_option maxHeartbeats 400000 in
theorem flush_no {w : World} {p : Nat} {D : Dr} {F : Nat → Prop} (h : DriveAt w p D F) (hr : D.runsE ≠ 0) :
  Calls Tryz.prog 69 #[.pointer (some ⟨p, 0, none⟩)] w fun e w' => e = .returned (.int .i64 (D.runsE : Nat)) ∧ w' = w := by
 have hc := runs_any h
 have hle := runsE_le D
 obtain ⟨r, er⟩ : ∃ r, r = D.runsE := ⟨_, rfl⟩
 rw [← er] at hc hr hle ⊢
 have hne : ((r : Int) == 0) = false := by rw [beq_eq_false_iff_ne]; omega
 clear er
 go_enter Tryz.func69, Tryz.ntmps69
 go_wp2_with fail
 refine hc.mono ?_
 rintro e w' ⟨rfl, rfl⟩
 go_wp2
 go_ret
 exact ⟨rfl, rfl⟩
set_option maxRecDepth 100000 in
set_option maxHeartbeats 400000 in
theorem flush_yes {w : World} {p : Nat} {D : Dr} {F : Nat → Prop} (h : DriveAt w p D F) (hr : D.runsE = 0) (hlen : ∀ i, (D.writes i).length ≤ 1000000) :
  Calls Tryz.prog 69 #[.pointer (some ⟨p, 0, none⟩)] w fun e w' => e = .returned (.int .i64 0) ∧ DriveAt w' p D.flush F ∧ Only F w w' := by
 have hc := runs_any h
 rw [hr] at hc
 have hs := settle_any h 100 #[] (fun _ c => c) (fun _ c => Nat.le_refl c) hlen (fun _ => True) (fun _ _ => trivial) (fun W _ k c _ _ => (flushing k c W).mono fun e w' ⟨h1, h2⟩ => ⟨h1, by rw [h2]; exact Below.refl _ _⟩) call_flushing
 have HS : Hid (Calls Tryz.prog 70 #[.pointer (some ⟨p, 0, none⟩), .func (.func 100) #[] #[]] w fun e w' => e = .returned (.tuple #[]) ∧ DriveAt w' p (D.settle fun _ c => c) F ∧ Only F w w') := hs
 have HR : Hid ((D.settle fun _ c => c).runsE = 0) := hr
 clear hs hr hlen
 go_enter Tryz.func69, Tryz.ntmps69
 go_wp2_with fail
 refine hc.mono ?_
 rintro e w' ⟨rfl, rfl⟩
 go_wp2_with fail
 refine HS.out.mono ?_
 rintro e w1 ⟨rfl, hd1, ho1⟩
 have hsp := spend_any hd1 HR.out
 have O1 : Hid (Only F w' w1) := ho1
 clear hd1 ho1 hc
 go_wp2_with fail
 refine hsp.mono ?_
 rintro e w2 ⟨rfl, hd2, ho2⟩
 have D2 : Hid (DriveAt w2 p D.flush F) := hd2
 have O2 : Hid (Only F w' w2) := O1.out.then ho2
 clear hd2 ho2 hsp
 go_wp2
 go_ret
 exact ⟨rfl, D2.out, O2.out⟩
end Go.Proofs.YtdgkhjgnjfgnlaaGreat
namespace Go.Proofs.YtdgkhjgnjfgnlaaGreat
open Go.RowKit Go.Maps
theorem txt_data (s : ByteArray) : txt s.data.toList = s := by cases s; rfl
theorem txt_size (l : List UInt8) : (txt l).size = l.length := rfl
def fullL (l : List UInt8) : List UInt8 := (l ++ List.replicate 64 0).take 64
def fullB (s : ByteArray) : ByteArray := txt (fullL s.data.toList)
def blankB : ByteArray := txt (List.replicate 64 0)
theorem blank_size : blankB.size = 64 := by simp [blankB, txt_size]
set_option maxRecDepth 100000 in
set_option maxHeartbeats 400000 in
theorem blank_any (w : World) : Calls Tryz.prog 61 #[] w fun e w' => e = .returned (.string blankB) ∧ w' = w := by
 go_enter Tryz.func61, Tryz.ntmps61
 go_wp2
 go_loop [1, 2] (fun s i => ∃ k : Nat, k ≤ 64 ∧ i = .int .i64 k ∧ s = .string (txt (List.replicate k 0))) (fun _ i => 64 - (intOf i).toNat)
 case atStart => exact ⟨0, by omega, rfl, rfl⟩
 case round =>
  obtain ⟨k, hk, rfl, rfl⟩ := hrel
  by_cases hlt : k < 64
  ·have hsz : (txt (List.replicate k 0)).size = k := by simp [txt_size]
   obtain ⟨t, ht⟩ : ∃ t, t = txt (List.replicate k 0) := ⟨_, rfl⟩
   rw [← ht] at hsz ⊢
   have HT : Hid (t = txt (List.replicate k 0)) := ht
   clear ht
   go_wp2
   go_round
   case rel => exact ⟨k + 1, by omega, by go_num, by
    rw [HT.out, List.replicate_succ']
    first | rfl | (congr 1; apply ByteArray.ext; simp [txt]; rfl)⟩
   case measure => simp [intOf]; omega
  ·have hkk : k = 64 := by omega
   subst hkk
   go_wp2
   go_ret
   exact ⟨rfl, rfl⟩
namespace Dr
structure Live (D : Dr) (n : Nat) : Prop where
 dead : D.dead = false
 goes : D.goes = false
 len : D.safe.length = n
theorem Live.run {D : Dr} {n : Nat} (h : D.Live n) : D.runsE = 0 := by unfold runsE; rw [h.dead, h.goes]; rfl
theorem Live.reach {D : Dr} {n i : Nat} (h : D.Live n) (hi : i < n) : D.reachE i = 0 := reachE_yes h.run (by rw [h.len]; exact hi)
theorem Live.take {D : Dr} {n i m : Nat} (h : D.Live n) (hi : i < n) (hm : m = 64) : D.takeE i m = 0 := by unfold takeE; rw [h.reach hi, if_pos rfl, if_pos hm]
theorem Live.out {D : Dr} {n i : Nat} (h : D.Live n) (hi : n ≤ i) : D.reachE i = 70 := by
 unfold reachE hasB; rw [if_pos h.run, h.len]
 have : decide ((i : Int) < (n : Int)) = false := by simp; omega
 rw [this]; simp
theorem Live.spend {D : Dr} {n : Nat} (h : D.Live n) : D.spend = D := by
 have := h.goes
 cases D; simp only at this; subst this; rfl
theorem Live.read {D : Dr} {n i : Nat} (h : D.Live n) (hi : i < n) (hs : D.spoilt.getD i false = false) : D.readE i = 0 ∧ D.readS i = D.last i := by
 have e : D.readE i = 0 := by unfold readE; rw [h.reach hi, if_pos rfl, Int.toNat_natCast, hs]; rfl
 exact ⟨e, by unfold readS; rw [if_pos e, Int.toNat_natCast]⟩
theorem Live.put {D : Dr} {n : Nat} (h : D.Live n) (i : Nat) (s : List UInt8) : (D.put i s).Live n := ⟨h.dead, h.goes, h.len⟩
theorem Live.write {D : Dr} {n : Nat} (h : D.Live n) (i : Nat) (s : List UInt8) : D.write i s = D.put i s := (h.put i s).spend
theorem Live.spoil {D : Dr} {n : Nat} (h : D.Live n) (i : Nat) : (D.spoil i).Live n := ⟨h.dead, h.goes, h.len⟩
theorem Live.settle {D : Dr} {n : Nat} (h : D.Live n) (K : Nat → Nat → Nat) : (D.settle K).Live n := ⟨h.dead, h.goes, (safeAt_length D K _).trans h.len⟩
theorem Live.flush {D : Dr} {n : Nat} (h : D.Live n) : D.flush = D.settle fun _ c => c := (h.settle _).spend
theorem Live.fresh (n : Nat) : (Dr.fresh n).Live n := ⟨rfl, rfl, by simp [Dr.fresh]⟩
theorem fresh_spoilt (n i : Nat) : (Dr.fresh n).spoilt.getD i false = false := by
 simp only [Dr.fresh, List.getD_eq_getElem?_getD, List.getElem?_replicate]
 split <;> rfl
theorem fresh_safe {n i : Nat} (h : i < n) : (Dr.fresh n).safe.getD i [] = List.replicate 64 0 := by
 simp [Dr.fresh, h]
theorem put_same (D : Dr) (i : Nat) (s : List UInt8) : (D.put i s).writes i = D.writes i ++ [s] := if_pos rfl
theorem put_other (D : Dr) {i j : Nat} (s : List UInt8) (h : j ≠ i) : (D.put i s).writes j = D.writes j := if_neg h
theorem put_last (D : Dr) (i : Nat) (s : List UInt8) : (D.put i s).last i = s := by
 unfold last; rw [put_same, if_neg (by simp)]; simp
theorem getD_set_other {l : List Bool} {i j : Nat} {b : Bool} (h : i ≠ j) : (l.set i b).getD j false = l.getD j false := by
 simp only [List.getD_eq_getElem?_getD, List.getElem?_set_ne h]
theorem getD_set_false {l : List Bool} {i j : Nat} (h : l.getD j false = false) : (l.set i false).getD j false = false := by
 by_cases e : i = j
 ·subst e
  simp only [List.getD_eq_getElem?_getD, List.getElem?_set]
  split
  ·split <;> rfl
  ·rename_i hn; exact absurd trivial hn
 ·rw [getD_set_other e]; exact h
theorem put_spoilt (D : Dr) (i : Nat) (s : List UInt8) {j : Nat} (h : D.spoilt.getD j false = false) : (D.put i s).spoilt.getD j false = false := getD_set_false h
theorem flush_one {D : Dr} {n i : Nat} (h : D.Live n) (hi : i < n) : (D.settle fun _ c => c).safe.getD i [] = D.last i := by
 unfold last
 by_cases e : D.writes i = []
 ·rw [if_pos e]; exact settle_idle _ (by rw [h.len]; exact hi) e
 ·rw [if_neg e]
  obtain ⟨j, _, _, hj⟩ := settle_busy (fun _ c => c) (i := i) (by rw [h.len]; exact hi) e
  rw [hj, if_pos (List.length_pos_iff.2 e)]
end Dr
end Go.Proofs.YtdgkhjgnjfgnlaaGreat
namespace Go.Proofs.YtdgkhjgnjfgnlaaGreat
open Go.RowKit Go.Maps
def Mine (w : World) (B p : Nat) (D : Dr) : Prop := DriveAt w p D (fun k => B ≤ k) ∧ B ≤ w.heap.size
theorem Mine.below {w w' : World} {B p : Nat} {D : Dr} (h : Mine w B p D) (hb : Below w.heap.size w w') : Mine w' B p D := ⟨h.1.below hb, Nat.le_trans h.2 hb.size⟩
theorem Mine.le {w : World} {B p : Nat} {D : Dr} (h : Mine w B p D) : B ≤ w.heap.size := h.2
theorem turned {w w' : World} {B : Nat} (h : Only (fun k => B ≤ k) w w') (hB : B ≤ w.heap.size) : Below B w w' := h.below (fun _ hk => hk) hB
end Go.Proofs.YtdgkhjgnjfgnlaaGreat
