/- What the statements call beside a drive: a sector that is blank, a text filled up; a drive that is alive and has its power; that a sector is written. -/
import Derived.Test.YtpflfdbkndomfaaDrvFlush
namespace Go.Proofs.Ytpflfdbkndomfaa
open Go.RowKit Go.Maps

theorem txt_data (s : ByteArray) : txt s.data.toList = s := by cases s; rfl
theorem data_txt (l : List UInt8) : (txt l).data.toList = l := rfl
theorem txt_size (l : List UInt8) : (txt l).size = l.length := rfl
def fullL (l : List UInt8) : List UInt8 := (l ++ List.replicate 64 0).take 64
/-- a text filled up to a sector -/
def fullB (s : ByteArray) : ByteArray := txt (fullL s.data.toList)
theorem fullL_length (l : List UInt8) : (fullL l).length = 64 := by simp [fullL]
theorem fullB_size (s : ByteArray) : (fullB s).size = 64 := fullL_length _
def blankB : ByteArray := txt (List.replicate 64 0)
theorem blank_size : blankB.size = 64 := by simp [blankB, txt_size]

set_option maxHeartbeats 400000 in
theorem blank_any (w : World) : Calls Try.prog 16 #[] w fun e w' => e = .returned (.string blankB) ∧ w' = w := by
  go_enter Try.func16, Try.ntmps16
  go_wp2
  go_loop [1, 2] (fun s i => ∃ k : Nat, k ≤ 64 ∧ i = .int .i64 k ∧ s = .string (txt (List.replicate k 0))) (fun _ i => 64 - (intOf i).toNat)
  case atStart => exact ⟨0, by omega, rfl, rfl⟩
  case round =>
    obtain ⟨k, hk, rfl, rfl⟩ := hrel
    by_cases hlt : k < 64
    · have hsz : (txt (List.replicate k 0)).size = k := by simp [txt_size]
      obtain ⟨t, ht⟩ : ∃ t, t = txt (List.replicate k 0) := ⟨_, rfl⟩
      rw [← ht] at hsz ⊢
      have HT : Hid (t = txt (List.replicate k 0)) := ht
      clear ht
      go_wp2
      go_round
      case rel => exact ⟨k + 1, by omega, by go_num, by
        rw [HT.out, List.replicate_succ']
        first | rfl | (congr 1; apply ByteArray.ext; simp [txt]; rfl)⟩
      case measure => simp [intOf]; omega
    · have hkk : k = 64 := by omega
      subst hkk
      go_wp2
      go_ret
      exact ⟨rfl, rfl⟩

set_option maxHeartbeats 400000 in
theorem full_any (s : ByteArray) (hs : s.size ≤ 100) (w : World) : Calls Try.prog 11 #[.string s] w fun e w' => e = .returned (.string (fullB s)) ∧ w' = w := by
  have hb := blank_size
  obtain ⟨b, eb⟩ : ∃ b, b = blankB := ⟨_, rfl⟩
  have hbl := blank_any w
  rw [← eb] at hb hbl
  have EB : Hid (b = blankB) := eb
  have h64 : (s ++ b).size = s.size + 64 := by rw [ByteArray.size_append, hb]
  have e : (s ++ b).extract 0 64 = fullB s := by
    rw [eb]
    unfold fullB fullL blankB txt
    apply ByteArray.ext
    apply Array.ext'
    rw [ByteArray.data_extract, ByteArray.data_append, Array.toList_extract, Array.toList_append]
    rfl
  have E : Hid ((s ++ b).extract 0 64 = fullB s) := e
  obtain ⟨z, hz⟩ : ∃ z, z = s.size := ⟨_, rfl⟩
  have hm : (s ++ b).size ≤ maxLen := by rw [h64]; unfold maxLen; omega
  clear e eb
  go_enter Try.func11, Try.ntmps11
  go_wp2_with fail
  refine hbl.mono ?_
  rintro e w' ⟨rfl, rfl⟩
  go_wp2
  go_ret
  exact ⟨ret_string E.out, rfl⟩

namespace Dr
/-- a drive of n sectors that is alive and has its power -/
structure Live (D : Dr) (n : Nat) : Prop where
  dead : D.dead = false
  goes : D.goes = false
  len : D.safe.length = n
theorem Live.run {D : Dr} {n : Nat} (h : D.Live n) : D.runsE = 0 := by unfold runsE; rw [h.dead, h.goes]; rfl
theorem Live.reach {D : Dr} {n i : Nat} (h : D.Live n) (hi : i < n) : D.reachE i = 0 := reachE_yes h.run (by rw [h.len]; exact hi)
theorem Live.take {D : Dr} {n i m : Nat} (h : D.Live n) (hi : i < n) (hm : m = 64) : D.takeE i m = 0 := by unfold takeE; rw [h.reach hi, if_pos rfl, if_pos hm]
theorem Live.out {D : Dr} {n i : Nat} (h : D.Live n) (hi : n ≤ i) : D.reachE i = 70 := by
  unfold reachE hasB; rw [if_pos h.run, h.len]
  have : decide ((i : Int) < (n : Int)) = false := by simp; omega
  rw [this]; simp
theorem Live.spend {D : Dr} {n : Nat} (h : D.Live n) : D.spend = D := by
  have := h.goes
  cases D; simp only at this; subst this; rfl
theorem Live.read {D : Dr} {n i : Nat} (h : D.Live n) (hi : i < n) (hs : D.spoilt.getD i false = false) : D.readE i = 0 ∧ D.readS i = D.last i := by
  have e : D.readE i = 0 := by unfold readE; rw [h.reach hi, if_pos rfl, Int.toNat_natCast, hs]; rfl
  exact ⟨e, by unfold readS; rw [if_pos e, Int.toNat_natCast]⟩
theorem Live.readNo {D : Dr} {n i : Nat} (h : D.Live n) (hi : i < n) (hs : D.spoilt.getD i false = true) : D.readE i = 41 ∧ D.readS i = [] := by
  have e : D.readE i = 41 := by unfold readE; rw [h.reach hi, if_pos rfl, Int.toNat_natCast, hs]; rfl
  exact ⟨e, by unfold readS; rw [if_neg (by omega)]⟩
theorem Live.put {D : Dr} {n : Nat} (h : D.Live n) (i : Nat) (s : List UInt8) : (D.put i s).Live n := ⟨h.dead, h.goes, h.len⟩
theorem Live.write {D : Dr} {n : Nat} (h : D.Live n) (i : Nat) (s : List UInt8) : D.write i s = D.put i s := (h.put i s).spend
theorem Live.spoil {D : Dr} {n : Nat} (h : D.Live n) (i : Nat) : (D.spoil i).Live n := ⟨h.dead, h.goes, h.len⟩
theorem Live.settle {D : Dr} {n : Nat} (h : D.Live n) (K : Nat → Nat → Nat) : (D.settle K).Live n := ⟨h.dead, h.goes, (safeAt_length D K _).trans h.len⟩
theorem Live.flush {D : Dr} {n : Nat} (h : D.Live n) : D.flush = D.settle fun _ c => c := (h.settle _).spend
theorem Live.fresh (n : Nat) : (Dr.fresh n).Live n := ⟨rfl, rfl, by simp [Dr.fresh]⟩
theorem fresh_spoilt (n i : Nat) : (Dr.fresh n).spoilt.getD i false = false := by
  simp only [Dr.fresh, List.getD_eq_getElem?_getD, List.getElem?_replicate]
  split <;> rfl
theorem fresh_safe {n i : Nat} (h : i < n) : (Dr.fresh n).safe.getD i [] = List.replicate 64 0 := by
  simp [Dr.fresh, h]
theorem put_same (D : Dr) (i : Nat) (s : List UInt8) : (D.put i s).writes i = D.writes i ++ [s] := if_pos rfl
theorem put_other (D : Dr) {i j : Nat} (s : List UInt8) (h : j ≠ i) : (D.put i s).writes j = D.writes j := if_neg h
theorem put_last (D : Dr) (i : Nat) (s : List UInt8) : (D.put i s).last i = s := by
  unfold last; rw [put_same, if_neg (by simp)]; simp
theorem getD_set_same {l : List Bool} {i : Nat} {b : Bool} (h : i < l.length) : (l.set i b).getD i false = b := by simp [h]
theorem getD_set_other {l : List Bool} {i j : Nat} {b : Bool} (h : i ≠ j) : (l.set i b).getD j false = l.getD j false := by
  simp only [List.getD_eq_getElem?_getD, List.getElem?_set_ne h]
theorem getD_set_false {l : List Bool} {i j : Nat} (h : l.getD j false = false) : (l.set i false).getD j false = false := by
  by_cases e : i = j
  · subst e
    simp only [List.getD_eq_getElem?_getD, List.getElem?_set]
    split
    · split <;> rfl
    · rename_i hn; exact absurd trivial hn
  · rw [getD_set_other e]; exact h
theorem put_spoilt (D : Dr) (i : Nat) (s : List UInt8) {j : Nat} (h : D.spoilt.getD j false = false) : (D.put i s).spoilt.getD j false = false := getD_set_false h
theorem flush_one {D : Dr} {n i : Nat} (h : D.Live n) (hi : i < n) : (D.settle fun _ c => c).safe.getD i [] = D.last i := by
  unfold last
  by_cases e : D.writes i = []
  · rw [if_pos e]; exact settle_idle _ (by rw [h.len]; exact hi) e
  · rw [if_neg e]
    obtain ⟨j, _, _, hj⟩ := settle_busy (fun _ c => c) (i := i) (by rw [h.len]; exact hi) e
    rw [hj, if_pos (List.length_pos_iff.2 e)]
end Dr

theorem write_live {w : World} {p n : Nat} {D : Dr} {F : Nat → Prop} (h : DriveAt w p D F) (hv : D.Live n) (i : Nat) (hi : i < n) (s : ByteArray) (hs : s.size = 64) (hlen : (D.writes i).length ≤ 1000000) :
    Calls Try.prog 10 #[.pointer (some ⟨p, 0, none⟩), .int .i64 (i : Nat), .string s] w fun e w' => e = .returned (.int .i64 0) ∧ DriveAt w' p (D.put i s.data.toList) (Plus F w.heap.size) ∧ Only F w w' := by
  have := write_yes h i s (hv.take hi hs) (by rw [hv.len]; exact hi) hlen
  rw [hv.write] at this
  exact this
theorem read_live {w : World} {p n : Nat} {D : Dr} {F : Nat → Prop} (h : DriveAt w p D F) (hv : D.Live n) (i : Nat) (hi : i < n) (hs : D.spoilt.getD i false = false) (t : ByteArray) (ht : D.last i = t.data.toList) :
    Calls Try.prog 14 #[.pointer (some ⟨p, 0, none⟩), .int .i64 (i : Nat)] w fun e w' => e = .returned (.tuple #[.string t, .int .i64 0]) ∧ Below w.heap.size w w' := by
  have := read_any h i
  rw [(hv.read hi hs).1, (hv.read hi hs).2, ht, txt_data] at this
  exact this
theorem read_bad {w : World} {p n : Nat} {D : Dr} {F : Nat → Prop} (h : DriveAt w p D F) (hv : D.Live n) (i : Nat) (hi : i < n) (hs : D.spoilt.getD i false = true) :
    Calls Try.prog 14 #[.pointer (some ⟨p, 0, none⟩), .int .i64 (i : Nat)] w fun e w' => e = .returned (.tuple #[.string (txt []), .int .i64 41]) ∧ Below w.heap.size w w' := by
  have := read_any h i
  rw [(hv.readNo hi hs).1, (hv.readNo hi hs).2] at this
  exact this
theorem safe_live {w : World} {p n : Nat} {D : Dr} {F : Nat → Prop} (h : DriveAt w p D F) (hv : D.Live n) (i : Nat) (hi : i < n) (t : ByteArray) (ht : D.safe.getD i [] = t.data.toList) :
    Calls Try.prog 15 #[.pointer (some ⟨p, 0, none⟩), .int .i64 (i : Nat)] w fun e w' => e = .returned (.tuple #[.string t, .int .i64 0]) ∧ w' = w := by
  have := safe_yes h i (by rw [hv.len]; exact hi)
  rw [ht, txt_data] at this
  exact this
theorem flush_live {w : World} {p n : Nat} {D : Dr} {F : Nat → Prop} (h : DriveAt w p D F) (hv : D.Live n) (hlen : ∀ i, (D.writes i).length ≤ 1000000) :
    Calls Try.prog 12 #[.pointer (some ⟨p, 0, none⟩)] w fun e w' => e = .returned (.int .i64 0) ∧ DriveAt w' p (D.settle fun _ c => c) F ∧ Only F w w' := by
  have := flush_yes h hv.run hlen
  rw [hv.flush] at this
  exact this

set_option maxHeartbeats 1000000 in
theorem shown_any (w : World) : Calls Try.prog 8 #[] w fun e w' => e = .returned (.bool true) ∧ Below w.heap.size w w' := by
  obtain ⟨fa, hfa⟩ : ∃ fa, fa = fullB ⟨#[97]⟩ := ⟨_, rfl⟩
  have hfs : fa.size = 64 := by rw [hfa]; exact fullB_size _
  have hfull : ∀ W, Calls Try.prog 11 #[.string ⟨#[97]⟩] W fun e w' => e = .returned (.string fa) ∧ w' = W := fun W => by
    rw [hfa]; exact full_any ⟨#[97]⟩ (by decide) W
  have HF : Hid (∀ W, Calls Try.prog 11 #[.string ⟨#[97]⟩] W fun e w' => e = .returned (.string fa) ∧ w' = W) := hfull
  have HS : Hid (fa.size = 64) := hfs
  clear hfa hfs hfull
  go_enter Try.func8, Try.ntmps8
  go_wp2_with fail
  refine (new_yes 3 (by omega) (by omega) _).mono ?_
  rintro e w1 ⟨p, rfl, hd1, hb1⟩
  have HD1 : Hid (DriveAt w1 p (Dr.fresh 3) (fun k => w.heap.size ≤ k)) := hd1
  have HB1 : Hid (Below w.heap.size w w1) := hb1
  clear hd1 hb1
  go_wp2_with fail
  refine (HF.out _).mono ?_
  rintro e w' ⟨rfl, rfl⟩
  go_wp2_with fail
  refine (write_live HD1.out (Dr.Live.fresh 3) 1 (by omega) fa HS.out (by simp [Dr.fresh])).mono ?_
  rintro e w2 ⟨rfl, hd2, ho2⟩
  have HD2 : Hid (DriveAt w2 p ((Dr.fresh 3).put 1 fa.data.toList) (Plus (fun k => w.heap.size ≤ k) w'.heap.size)) := hd2
  have HB2 : Hid (Below w.heap.size w w2) := HB1.out.trans (ho2.below (fun k hk => hk) HB1.out.size)
  clear hd2 ho2
  go_wp2_with fail
  refine (read_live HD2.out ((Dr.Live.fresh 3).put 1 _) 1 (by omega) (Dr.put_spoilt _ _ _ (Dr.fresh_spoilt 3 1)) fa (Dr.put_last _ _ _)).mono ?_
  rintro e w3 ⟨rfl, hb3⟩
  have HD3 : Hid (DriveAt w3 p ((Dr.fresh 3).put 1 fa.data.toList) (Plus (fun k => w.heap.size ≤ k) w'.heap.size)) := HD2.out.below hb3
  have HB3 : Hid (Below w.heap.size w w3) := below2 HB2.out hb3
  clear hb3
  go_wp2_with fail
  refine (HF.out _).mono ?_
  rintro e w'' ⟨rfl, rfl⟩
  have hpend : ((Dr.fresh 3).put 1 fa.data.toList).pending = 1 := rfl
  have hp := pending_any HD3.out (by rw [hpend]; omega)
  rw [hpend] at hp
  have HP : Hid (Calls Try.prog 17 #[.pointer (some ⟨p, 0, none⟩)] w'' fun e w' => e = .returned (.int .i64 (1 : Nat)) ∧ Below w''.heap.size w'' w') := hp
  clear hp hpend
  go_wp2_with fail
  refine HP.out.mono ?_
  rintro e w4 ⟨rfl, hb4⟩
  have HB4 : Hid (Below w.heap.size w w4) := below2 HB3.out hb4
  clear hb4
  go_wp2
  go_ret
  exact ⟨rfl, HB4.out⟩
end Go.Proofs.Ytpflfdbkndomfaa
