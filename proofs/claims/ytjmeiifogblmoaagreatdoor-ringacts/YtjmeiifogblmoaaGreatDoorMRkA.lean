/- Several texts in one. What the program's own ways of telling a record come to: plain. The walk of the program's own apart: parts are counted by a map of their places. The walks of the program's own placed, and May. -/
import Derived.Test.YtjmeiifogblmoaaGreatDoorMRefG
import Derived.Test.YtjmeiifogblmoaaGreatDoorPgTrim
import Derived.Test.YtjmeiifogblmoaaGreatDoorMRecB
import Derived.Maps.OwnSet
import Derived.Maps.Views
import Derived.WideKeyPair
import Derived.Deep.LoopGhost
import Derived.BigQuiet
namespace Go.Proofs.YtjmeiifogblmoaaGreatDoor

namespace Rc
/-- no two of the first n stand at one place -/
def apartTo (f : Nat → Prt) : Nat → Bool
  | 0 => true
  | i + 1 => apartTo f i && freshTo f i i
/-- the first n have places that may be -/
def inTo (f : Nat → Prt) : Nat → Bool
  | 0 => true
  | i + 1 => inTo f i && inB (f i)
theorem okTo_split (f : Nat → Prt) : ∀ n, okTo f n = (inTo f n && apartTo f n)
  | 0 => rfl
  | n + 1 => by
    unfold okTo inTo apartTo
    rw [okTo_split f n]
    cases inTo f n <;> cases apartTo f n <;> cases inB (f n) <;> cases freshTo f n n <;> rfl
theorem inTo_iff (f : Nat → Prt) : ∀ n, inTo f n = true ↔ ∀ i, i < n → inB (f i) = true
  | 0 => ⟨fun _ _ h => absurd h (Nat.not_lt_zero _), fun _ => rfl⟩
  | n + 1 => by
    unfold inTo
    rw [Bool.and_eq_true, inTo_iff f n]
    constructor
    · rintro ⟨h1, h2⟩ i hi
      by_cases e : i = n
      · subst e; exact h2
      · exact h1 i (by omega)
    · intro h; exact ⟨fun i hi => h i (by omega), h n (by omega)⟩
theorem inTo_not {f : Nat → Prt} {n i : Nat} (hi : i < n) (h : inB (f i) = false) : inTo f n = false := by
  cases e : inTo f n with
  | false => rfl
  | true => have := (inTo_iff f n).1 e i hi; rw [h] at this; cases this
theorem places_few {row : Int} {n : Nat} {f : Nat → Prt} (h : fewB row n = false) : placesB row n f = false := by unfold placesB; rw [h]; rfl
theorem places_out {row : Int} {n : Nat} {f : Nat → Prt} (h : inTo f n = false) : placesB row n f = false := by unfold placesB; rw [okTo_split, h]; cases fewB row n <;> rfl
theorem places_apart {row : Int} {n : Nat} {f : Nat → Prt} (h : fewB row n = true) (h2 : inTo f n = true) : placesB row n f = apartTo f n := by unfold placesB; rw [okTo_split, h, h2]; cases apartTo f n <;> rfl
/-- all texts behind one another, as bytes -/
theorem catTo_flat (f : Nat → Prt) : ∀ n, (catTo f n).data.toList = (((List.range n).map fun j => (f j).data).map (·.data.toList)).flatten
  | 0 => rfl
  | n + 1 => by
    unfold catTo
    rw [ByteArray.data_append, Array.toList_append, catTo_flat f n, List.range_succ]
    simp
/-- the last bytes of a head, from k on, are bytes 0 -/
def zeroFrom (t : ByteArray) (k : Nat) : Bool := (t.data.toList.drop k).all (· == 0)
theorem zeroFrom_iff (t : ByteArray) (k : Nat) : zeroFrom t k = true ↔ t.data.toList.drop k = List.replicate (t.size - k) 0 := by
  unfold zeroFrom
  rw [List.eq_replicate_iff, List.length_drop, Pg.list_size]
  simp
theorem plB_part (t : ByteArray) (j : Nat) : plB (partT t j) = Pg.byt11 t (19 + j) := by
  unfold plB partT
  dsimp only
  generalize Pg.byt11 t (19 + j) = c
  have hc := c.toNat_lt
  apply UInt8.toNat_inj.1
  rw [UInt8.toNat_ofNat']
  omega
theorem nums_back {t : ByteArray} (ts : t.size = 60) : (numsB (numT t 0) (numT t 1 : Nat) (numT t 2) (numT t 3)).data.toList = (t.extract 4 19).data.toList := by
  have hl : (t.extract 4 19).data.toList.length = Pk.offs ws ws.length := by rw [Pg.list_size, num_size ts]; rfl
  have h2 : (Pk.dec (t.extract 4 19).data.toList ws).length = 4 := Pk.dec_length ws_ok hl
  have e : [numT t 0, numT t 1, numT t 2, numT t 3] = Pk.dec (t.extract 4 19).data.toList ws := by
    unfold numT
    generalize Pk.dec (t.extract 4 19).data.toList ws = l at h2
    match l, h2 with
    | [a, b, c, d], _ => rfl
  unfold numsB
  rw [show ((numT t 1 : Nat) : Int).toNat = numT t 1 by omega, e]
  show (Pk.encS _ ws).data.toList = _
  unfold Pk.encS
  rw [Pk.enc_dec ws_ok hl]
theorem codes_back {t : ByteArray} (ts : t.size = 60) {n : Nat} (hn : n ≤ 40) : (plTo (partT t) n).data.toList = (t.data.toList.drop 19).take n := by
  rw [plTo_list]
  apply List.ext_getElem?
  intro j
  have hl : t.data.toList.length = 60 := by rw [Pg.list_size, ts]
  by_cases h : j < n
  · rw [List.getElem?_take_of_lt h, List.getElem?_drop, List.getElem?_map, List.getElem?_range h, Option.map_some, plB_part]
    unfold Pg.byt11
    rw [List.getD_eq_getElem?_getD, List.getElem?_eq_getElem (by omega)]
    rfl
  · rw [List.getElem?_eq_none (by simp; omega), List.getElem?_eq_none (by simp; omega)]
theorem body_back {t : ByteArray} (ts : t.size = 60) (hf : t.extract 0 4 = magicB) {n : Nat} (hn : n = numT t 2) (h40 : n ≤ 40) : (bodyB (numT t 0) (numT t 1 : Nat) n (partT t) (numT t 3)).data.toList = t.data.toList.take (19 + n) := by
  unfold bodyB
  rw [ByteArray.data_append, ByteArray.data_append, Array.toList_append, Array.toList_append, hn, nums_back ts, ← hn, codes_back ts h40, ← hf, Pg.extract_list, Pg.extract_list]
  rw [show 19 + n = 4 + (15 + n) by omega, List.take_add, List.take_add, List.drop_drop]
  simp [List.append_assoc]
/-- a head that opens is the one of what it tells just if bytes 0 stand behind -/
theorem head_again {b t : ByteArray} (h : b.size = 64) (ho : Crc.opens b.data.toList = true) (ht : Crc.headB b = t) (hf : t.extract 0 4 = magicB) (h40 : numT t 2 ≤ 40) :
    decide (headS (numT t 0) (numT t 1 : Nat) (numT t 2) (partT t) (numT t 3) = b) = zeroFrom t (19 + numT t 2) := by
  have ts : t.size = 60 := by rw [← ht]; exact Pg.head_size h
  have hbl : b.data.toList.length = 64 := by rw [Pg.list_size, h]
  have htl : t.data.toList = b.data.toList.take 60 := by rw [← ht]; unfold Crc.headB; rw [Pg.extract_list, h]; rfl
  have hb : b.data.toList = t.data.toList ++ Crc.fourL (Crc.more 0 t.data.toList) := by
    unfold Crc.opens at ho
    rw [Bool.and_eq_true, hbl] at ho
    have e := eq_of_beq ho.2
    rw [htl, ← e]
    exact (List.take_append_drop 60 _).symm
  obtain ⟨n, hn⟩ : ∃ n, n = numT t 2 := ⟨_, rfl⟩
  rw [← hn] at h40 ⊢
  have hbody := body_back ts hf hn h40
  have htl60 : t.data.toList.length = 60 := by rw [Pg.list_size, ts]
  have hbs : (t.data.toList.take (19 + n)).length = 19 + n := by rw [List.length_take, htl60]; omega
  have hhead : (headS (numT t 0) (numT t 1 : Nat) n (partT t) (numT t 3)).data.toList = (t.data.toList.take (19 + n) ++ List.replicate (41 - n) 0) ++ Crc.fourL (Crc.more 0 (t.data.toList.take (19 + n) ++ List.replicate (41 - n) 0)) := by
    unfold headS Crc.sealB
    show Crc.sealL _ 64 = _
    unfold Crc.sealL Crc.padL
    rw [hbody, hbs, show 64 - 4 - (19 + n) = 41 - n by omega]
  have hdl : (t.data.toList.drop (19 + n)).length = 41 - n := by rw [List.length_drop, htl60]; omega
  rw [Bool.eq_iff_iff, decide_eq_true_iff, zeroFrom_iff, ts, show 60 - (19 + n) = 41 - n by omega]
  constructor
  · intro e
    have e1 : (headS (numT t 0) (numT t 1 : Nat) n (partT t) (numT t 3)).data.toList = b.data.toList := by rw [e]
    rw [hhead, hb] at e1
    have e2 := List.append_inj_left e1 (by rw [List.length_append, hbs, List.length_replicate, htl60]; omega)
    have e3 : t.data.toList.take (19 + n) ++ List.replicate (41 - n) 0 = t.data.toList.take (19 + n) ++ t.data.toList.drop (19 + n) := by rw [e2, List.take_append_drop]
    exact (List.append_cancel_left e3).symm
  · intro e
    apply Pg.eq_of_list
    rw [hhead, hb, ← e, List.take_append_drop]
/-- what Head answers of a head whose magic is right -/
theorem headE_taken {b t : ByteArray} (h : b.size = 64) (ho : Crc.opens b.data.toList = true) (ht : Crc.headB b = t) (hf : t.extract 0 4 = magicB) :
    headE b = if (decide (numT t 2 ≤ 41) && zeroFrom t (19 + numT t 2) && placesB (numT t 1 : Nat) (numT t 2) (partT t)) = true then 0 else 1 := by
  have hf' : (Crc.headB b).extract 0 4 = magicB := by rw [ht]; exact hf
  by_cases hm : 40 < numT t 2
  · rw [headE_many h ho hf' (by rw [ht]; exact hm)]
    have hfew : fewB (numT t 1 : Nat) (numT t 2) = false := by
      cases e : fewB (numT t 1 : Nat) (numT t 2) with
      | false => rfl
      | true => have := (few_iff _ _).1 e; omega
    rw [places_few hfew, Bool.and_false]
    rfl
  · have hr := headE_rest h ho hf' (by rw [ht]; exact hm)
    rw [ht] at hr
    rw [hr, head_again h ho ht hf (by omega), decide_eq_true (by omega : numT t 2 ≤ 41), Bool.true_and, Bool.and_comm]
    cases (zeroFrom t (19 + numT t 2) && placesB (numT t 1 : Nat) (numT t 2) (partT t)) <;> rfl
end Rc
end Go.Proofs.YtjmeiifogblmoaaGreatDoor

namespace Go.Proofs.YtjmeiifogblmoaaGreatDoor
open Go.RowKit Go.Maps Go.WideMaps

theorem key12 : ArrKey Tryz.prog 200 3 2 := ⟨Tryz.underlying200, by kernel_rfl, by kernel_rfl, by kernel_rfl⟩
theorem law12 : Keyed Tryz.prog 200 := Keyed.of_law key12.law
theorem types12 : ∃ m, Tryz.prog.types.size = m + 1 := by
  have h : 0 < Tryz.prog.types.size := of_decide_eq_true (by kernel_rfl)
  exact ⟨Tryz.prog.types.size - 1, by omega⟩
namespace Rc
/-- a place, as a key -/
def keyL (x : Prt) : Lit := .string (keyBytes [.int .i64 x.col, .int .i64 x.off])
/-- the places of the first k -/
def seenD (f : Nat → Prt) : Nat → DataW Unit
  | 0 => .map []
  | k + 1 => (seenD f k).put (keyL (f k)) (.lit (.bool true))
/-- in an int's bounds -/
def Wide (x : Prt) : Prop := (-9223372036854775808 ≤ x.col ∧ x.col ≤ 9223372036854775807) ∧ (-9223372036854775808 ≤ x.off ∧ x.off ≤ 9223372036854775807)
end Rc
theorem wf12 {a : Int} (h : -9223372036854775808 ≤ a ∧ a ≤ 9223372036854775807) : (Lit.int .i64 a).wf = true := WalkArith.wf_i64 (by omega)
theorem keyOf12 {x : Prt} (h : Rc.Wide x) : keyOf Tryz.prog 200 (.agg #[.int .i64 x.col, .int .i64 x.off]) = some (Rc.keyL x) := keyOf_pair key12 Tryz.underlying3 types12 (wf12 h.1) (wf12 h.2)
theorem key_ne {x y : Prt} (hx : Rc.Wide x) (hy : Rc.Wide y) (h : Rc.sameB x y = false) : Rc.keyL x ≠ Rc.keyL y := fun e => by
  have h1 := keyOf12 hx
  rw [e] at h1
  have := law12.inj h1 (keyOf12 hy)
  injection this with this
  injection this with this
  injection this with e1 e2
  injection e2 with e2 _
  injection e1 with _ e1
  injection e2 with _ e2
  unfold Rc.sameB at h
  rw [e1, e2] at h
  simp at h
theorem key_eq {x y : Prt} (h : Rc.sameB x y = true) : Rc.keyL x = Rc.keyL y := by
  unfold Rc.sameB at h
  simp only [Bool.and_eq_true, decide_eq_true_eq] at h
  unfold Rc.keyL
  rw [h.1, h.2]
theorem key_lit (x : Prt) : WideAt.IsKeyLit (Rc.keyL x) := trivial
theorem seen_tidy (f : Nat → Prt) : ∀ k, Tidy (Rc.seenD f k)
  | 0 => tidy_empty
  | k + 1 => (seen_tidy f k).put (key_lit _) _
theorem seen_has {f : Nat → Prt} {n : Nat} (hw : ∀ j, j < n → Rc.Wide (f j)) {i : Nat} (hi : i < n) : ∀ {k}, k ≤ n → Maps.has (Rc.seenD f k) (Rc.keyL (f i)) = !(Rc.freshTo f i k)
  | 0, _ => rfl
  | k + 1, hk => by
    unfold Rc.seenD Rc.freshTo
    cases h : Rc.sameB (f k) (f i) with
    | true =>
      rw [key_eq h, has_put_same (seen_tidy f k).isMap (key_lit _)]
      simp
    | false =>
      rw [has_put_other (Ne.symm (key_ne (hw k (by omega)) (hw i hi) h)), seen_has hw hi (by omega)]
      simp
theorem seen_size {f : Nat → Prt} {n : Nat} (hw : ∀ j, j < n → Rc.Wide (f j)) : ∀ {k}, k ≤ n → Maps.size (Rc.seenD f k) ≤ k ∧ decide (Maps.size (Rc.seenD f k) = k) = Rc.apartTo f k
  | 0, _ => ⟨Nat.le_refl _, rfl⟩
  | k + 1, hk => by
    obtain ⟨h1, h2⟩ := seen_size hw (k := k) (by omega)
    have hs := size_put (k := Rc.keyL (f k)) (seen_tidy f k) (.lit (.bool true))
    rw [seen_has hw (by omega) (by omega)] at hs
    unfold Rc.apartTo
    show Maps.size ((Rc.seenD f k).put (Rc.keyL (f k)) (.lit (.bool true))) ≤ k + 1 ∧ decide (Maps.size ((Rc.seenD f k).put (Rc.keyL (f k)) (.lit (.bool true))) = k + 1) = (Rc.apartTo f k && Rc.freshTo f k k)
    rw [hs, ← h2]
    cases hf : Rc.freshTo f k k with
    | true =>
      simp
      omega
    | false =>
      simp
      omega

set_option maxRecDepth 100000 in
set_option maxHeartbeats 4000000 in
theorem apart12_some (b off n cap : Nat) (f : Nat → Prt) (w : World) (hw : ∀ j, j < n → Rc.Wide (f j)) (hn : n ≤ 60) (hp : ∀ j, j < n → PartAt w b (off + j * 3) (f j)) :
    Calls Tryz.prog 135 #[.slice (some ⟨b, off, none⟩) n cap] w fun e w' => e = .returned (.bool (Rc.apartTo f n)) ∧ Below w.heap.size w w' := by
  have hmm := @run_makeMap Tryz.prog
  have HP : Hid (∀ j, j < n → PartAt w b (off + j * 3) (f j)) := hp
  have HW : Hid (∀ j, j < n → Rc.Wide (f j)) := hw
  have HN : Hid (n ≤ 60) := hn
  clear hp hw hn
  go_enter Tryz.func135, Tryz.ntmps135
  go_wp2
  go_loopg [9] n (fun gg i wr => ∃ k : Nat, k ≤ n ∧ gg = n - k ∧ i = .int .i64 (k : Int) ∧ wr.ownsMap Tryz.prog 200 (plainElem Tryz.prog 4) w.heap.size k (Rc.seenD f k) ∧ Below w.heap.size w wr)
  case atStart => exact ⟨0, Nat.zero_le _, rfl, rfl, World.ownsMap_made _ _ _ _, (Below.refl _ w).alloc (Nat.le_refl _) _⟩
  case round =>
  obtain ⟨k, hk, rfl, rfl, hown, hb⟩ := hrel
  have OWN : Hid (wr.ownsMap Tryz.prog 200 (plainElem Tryz.prog 4) w.heap.size k (Rc.seenD f k)) := hown
  have HB : Hid (Below w.heap.size w wr) := hb
  clear hown
  by_cases hlt : k < n
  case neg =>
    have hkn : k = n := by omega
    subst hkn
    obtain ⟨s1, s2⟩ := seen_size HW.out (Nat.le_refl k)
    obtain ⟨m, hm⟩ : ∃ m, m = Maps.size (Rc.seenD f k) := ⟨_, rfl⟩
    have HM : Hid (Maps.size (Rc.seenD f k) = m) := hm.symm
    rw [← hm] at s2
    have hsz : ((m : Int) == (k : Int)) = Rc.apartTo f k := by
      rw [← s2, Bool.eq_iff_iff, beq_iff_eq, decide_eq_true_iff]; omega
    obtain ⟨v, hv⟩ : ∃ v, v = Rc.apartTo f k := ⟨_, rfl⟩
    rw [← hv] at hsz
    have HV : Hid (v = Rc.apartTo f k) := hv
    clear hlt hk s1 s2 hm hv hb
    go_wp2_with (at_len; refine wpList_len_own _ rfl _ 199 rfl 200 4 Tryz.underlying199 _ w.heap.size k (Rc.seenD f k) rfl OWN.out ?_; rw [HM.out])
    go_ret
    refine ⟨?_, HB.out⟩
    rw [← HV.out]
    rfl
  case pos =>
  have hki : (k : Int) < (n : Int) := by omega
  have hn60 := HN.out
  have hpk := (HP.out k hlt).below hb (HP.out k hlt).lt
  have c0 := hpk.c0
  have c1 := hpk.c1
  have c2 := hpk.c2
  have hkey := keyOf12 (HW.out k hlt)
  have hseen : Rc.seenD f (k + 1) = (Rc.seenD f k).put (Rc.keyL (f k)) (.lit (.bool true)) := rfl
  obtain ⟨x, hx⟩ : ∃ x, x = f k := ⟨_, rfl⟩
  obtain ⟨kl, hkl⟩ : ∃ kl, kl = Rc.keyL (f k) := ⟨_, rfl⟩
  rw [← hkl] at hkey hseen
  rw [← hx] at c0 c1 c2 hkey
  obtain ⟨xc, xo, xd⟩ := x
  dsimp only at c0 c1 c2 hkey
  have HKey : Hid (keyOf Tryz.prog 200 (.agg #[.int .i64 xc, .int .i64 xo]) = some kl) := hkey
  have HSeen : Hid (Rc.seenD f (k + 1) = (Rc.seenD f k).put kl (.lit (.bool true))) := hseen
  have hkm : k < maxLen := by have := HN.out; unfold maxLen; omega
  have HWs : Hid (w.heap.size ≤ wr.heap.size) := hb.size
  clear hpk hx hkl hkey hseen hb
  go_wp2_with (at_mapUpdate; refine wpList_mapUpdate_own _ rfl _ _ _ 199 rfl 200 4 law12 Tryz.underlying199 _ w.heap.size k (Rc.seenD f k) rfl (OWN.out.alloc _) hkm _ _ kl rfl rfl HKey.out _ [] (plainElem_bool Tryz.underlying4 true) ?_; intro w3 hown3 hgrow3; have OWN3 : Hid (w3.ownsMap Tryz.prog 200 (plainElem Tryz.prog 4) w.heap.size (k + 1) (Rc.seenD f (k + 1))) := (by show World.ownsMap _ _ _ _ _ _ _; rw [HSeen.out]; exact hown3); have HB3 : Hid (Below w.heap.size w w3) := ((HB.out.alloc HWs.out _).grown hgrow3 (by rw [World.size_alloc]; have := HWs.out; omega) (fun j hj => by cases hj; exact Nat.le_refl _)); clear hown3 hgrow3)
  go_roundg (n - (k + 1))
  case measure => omega
  case rel => exact ⟨k + 1, by omega, rfl, by go_num, OWN3.out, HB3.out⟩
theorem apart12_any (a : Option Addr) (n cap : Nat) (f : Nat → Prt) (w : World) (hw : ∀ j, j < n → Rc.Wide (f j)) (n1 : 1 ≤ n) (hn : n ≤ 60) (hp : PartsR w a n f) :
    Calls Tryz.prog 135 #[.slice a n cap] w fun e w' => e = .returned (.bool (Rc.apartTo f n)) ∧ Below w.heap.size w w' := by
  obtain ⟨b, off, rfl, hp2⟩ := hp.head (by omega)
  exact apart12_some b off n cap f w hw hn hp2
end Go.Proofs.YtjmeiifogblmoaaGreatDoor

namespace Go.Proofs.YtjmeiifogblmoaaGreatDoor
open Go.RowKit

theorem RecIn.wide {row : Int} {n : Nat} {f : Nat → Prt} (h : RecIn row n f) : ∀ j, j < n → Rc.Wide (f j) := fun j hj => ⟨h.hcol j hj, h.hoff j hj⟩
set_option maxRecDepth 100000 in
set_option maxHeartbeats 2000000 in
theorem placed12_few (seq row : Int) (a : Option Addr) (n cap : Nat) (w : World) (hr : -9223372036854775808 ≤ row ∧ row ≤ 9223372036854775807) (hn : n ≤ 9223372036854775807) (h : Rc.fewB row n = false) :
    Calls Tryz.prog 105 #[.agg #[.int .u64 seq, .int .i64 row, .slice a n cap]] w fun e w' => e = .returned (.bool false) ∧ Below w.heap.size w w' := by
  by_cases h1 : row < 0
  · clear h
    go_enter Tryz.func105, Tryz.ntmps105
    go_wp2
    go_ret
    exact ⟨rfl, (Below.refl _ w).alloc (Nat.le_refl _) _⟩
  · by_cases h2 : 256 ≤ row
    · clear h
      go_enter Tryz.func105, Tryz.ntmps105
      go_wp2
      go_ret
      exact ⟨rfl, (Below.refl _ w).alloc (Nat.le_refl _) _⟩
    · by_cases h3 : (n : Int) < 1
      · clear h
        go_enter Tryz.func105, Tryz.ntmps105
        go_wp2
        go_ret
        exact ⟨rfl, (Below.refl _ w).alloc (Nat.le_refl _) _⟩
      · by_cases h4 : (40 : Int) < (n : Int)
        · clear h
          go_enter Tryz.func105, Tryz.ntmps105
          go_wp2
          go_ret
          exact ⟨rfl, (Below.refl _ w).alloc (Nat.le_refl _) _⟩
        · exfalso
          have := (Rc.few_iff row n).2 ⟨by omega, by omega, by omega, by omega⟩
          rw [h] at this; cases this

set_option maxRecDepth 100000 in
set_option maxHeartbeats 4000000 in
theorem placed12_some (seq row : Int) (b off n cap : Nat) (f : Nat → Prt) (w : World) (hin : RecIn row n f) (hp : ∀ j, j < n → PartAt w b (off + j * 3) (f j)) (h : Rc.fewB row n = true) :
    Calls Tryz.prog 105 #[.agg #[.int .u64 seq, .int .i64 row, .slice (some ⟨b, off, none⟩) n cap]] w fun e w' => e = .returned (.bool (Rc.placesB row n f)) ∧ Below w.heap.size w w' := by
  obtain ⟨r0, r1, n1, n40⟩ := (Rc.few_iff row n).1 h
  have h1 : ¬ row < 0 := by omega
  have h2 : ¬ 256 ≤ row := by omega
  have h3 : ¬ (n : Int) < 1 := by omega
  have h4 : ¬ (40 : Int) < (n : Int) := by omega
  have hAp := fun (W : World) (hr : PartsR W (some ⟨b, off, none⟩) n f) => apart12_any (some ⟨b, off, none⟩) n cap f W hin.wide n1 (by omega) hr
  have HAp : Hid _ := hAp
  have HP : Hid (∀ j, j < n → PartAt w b (off + j * 3) (f j)) := hp
  have HI : Hid (RecIn row n f) := hin
  have HF : Hid (Rc.fewB row n = true) := h
  have H40 : Hid (n ≤ 40) := n40
  clear h hp hin r0 r1 n1 n40 hAp
  go_enter Tryz.func105, Tryz.ntmps105
  go_wp2
  go_loopg [28] n (fun gg i wr => ∃ k : Nat, k ≤ n ∧ gg = n - k ∧ i = .int .i64 (k : Int) ∧ Below (w.alloc (.cells #[.int .u64 seq, .int .i64 row, .slice (some ⟨b, off, none⟩) n cap] 71)).heap.size (w.alloc (.cells #[.int .u64 seq, .int .i64 row, .slice (some ⟨b, off, none⟩) n cap] 71)) wr ∧ Rc.inTo f k = true)
  case atStart => exact ⟨0, Nat.zero_le _, rfl, rfl, Below.refl _ _, rfl⟩
  case round =>
  obtain ⟨k, hk, rfl, rfl, hb, hok⟩ := hrel
  have HB : Hid (Below (w.alloc (.cells #[.int .u64 seq, .int .i64 row, .slice (some ⟨b, off, none⟩) n cap] 71)).heap.size (w.alloc (.cells #[.int .u64 seq, .int .i64 row, .slice (some ⟨b, off, none⟩) n cap] 71)) wr) := hb
  have HOk : Hid (Rc.inTo f k = true) := hok
  have d2 : wr.cell? ⟨w.heap.size, 2, none⟩ = some (.slice (some ⟨b, off, none⟩) n cap) := box_cell hb 2
  clear hb hok
  by_cases hlt : k < n
  case neg =>
    have hkn : k = n := by omega
    subst hkn
    have hap := HAp.out wr (fun j hj => ⟨b, off, rfl, (HP.out j hj).below (box_below HB.out) (HP.out j hj).lt⟩)
    rw [← Rc.places_apart HF.out HOk.out] at hap
    clear hlt hk
    go_wp2_with fail
    refine hap.mono ?_
    rintro e w3 ⟨rfl, hb3⟩
    have HB3 : Hid (Below w.heap.size w w3) := below2 (box_below HB.out) hb3
    clear hb3 hap
    go_wp2
    go_ret
    exact ⟨rfl, HB3.out⟩
  case pos =>
  have hki : (k : Int) < (n : Int) := by omega
  have hpk := (HP.out k hlt).below (box_below HB.out) (HP.out k hlt).lt
  have c0 := hpk.c0
  have c1 := hpk.c1
  have c2 := hpk.c2
  obtain ⟨i1, i2⟩ := HI.out.hcol k hlt
  obtain ⟨i3, i4⟩ := HI.out.hoff k hlt
  obtain ⟨x, hx⟩ : ∃ x, x = f k := ⟨_, rfl⟩
  rw [← hx] at c0 c1 c2 i1 i2 i3 i4
  obtain ⟨xc, xo, xd⟩ := x
  dsimp only at c0 c1 c2 i1 i2 i3 i4
  have hin : Rc.inB (f k) = (decide (0 ≤ xc) && (decide (xc < 10) && (decide (0 ≤ xo) && decide (xo < 4)))) := by rw [← hx]; rfl
  have BX : Hid (Below w.heap.size w (wr.alloc (.cells #[.int .i64 xc, .int .i64 xo, .string xd] 83))) := (box_below HB.out).alloc (box_below HB.out).size _
  have hszr := HB.out.size
  have BR : Hid (Below (w.alloc (.cells #[.int .u64 seq, .int .i64 row, .slice (some ⟨b, off, none⟩) n cap] 71)).heap.size (w.alloc (.cells #[.int .u64 seq, .int .i64 row, .slice (some ⟨b, off, none⟩) n cap] 71)) (wr.alloc (.cells #[.int .i64 xc, .int .i64 xo, .string xd] 83))) := HB.out.alloc hszr _
  clear hpk hx hszr
  by_cases hbd : Rc.inB (f k) = true
  case neg =>
    have HNo : Hid (Rc.placesB row n f = false) := Rc.places_out (Rc.inTo_not hlt (by simpa using hbd))
    rw [hin] at hbd
    clear hin
    by_cases g1 : xc < 0
    · clear hbd
      go_wp2
      go_ret
      exact ⟨by rw [HNo.out]; rfl, BX.out⟩
    · by_cases g2 : 10 ≤ xc
      · clear hbd
        go_wp2
        go_ret
        exact ⟨by rw [HNo.out]; rfl, BX.out⟩
      · by_cases g3 : xo < 0
        · clear hbd
          go_wp2
          go_ret
          exact ⟨by rw [HNo.out]; rfl, BX.out⟩
        · by_cases g4 : 4 ≤ xo
          · clear hbd
            go_wp2
            go_ret
            exact ⟨by rw [HNo.out]; rfl, BX.out⟩
          · exfalso
            apply hbd
            simp
            omega
  case pos =>
  have HIn : Hid (Rc.inTo f (k + 1) = true) := by show _ = _; unfold Rc.inTo; rw [HOk.out, hbd]; rfl
  rw [hin] at hbd
  simp only [Bool.and_eq_true, decide_eq_true_eq] at hbd
  obtain ⟨g1, g2, g3, g4⟩ := hbd
  have g1' : ¬ xc < 0 := by omega
  have g2' : ¬ 10 ≤ xc := by omega
  have g3' : ¬ xo < 0 := by omega
  have g4' : ¬ 4 ≤ xo := by omega
  clear hin
  go_wp2
  go_roundg (n - (k + 1))
  case measure => omega
  case rel => exact ⟨k + 1, by omega, rfl, by go_num, BR.out, HIn.out⟩
/-- the program's own placed, of any record -/
theorem placed12_any (seq row : Int) (a : Option Addr) (n cap : Nat) (f : Nat → Prt) (w : World) (hin : RecIn row n f) (hp : PartsR w a n f) :
    Calls Tryz.prog 105 #[.agg #[.int .u64 seq, .int .i64 row, .slice a n cap]] w fun e w' => e = .returned (.bool (Rc.placesB row n f)) ∧ Below w.heap.size w w' := by
  cases h : Rc.fewB row n with
  | false =>
    rw [Rc.places_few h]
    exact placed12_few seq row a n cap w hin.hrow hin.hlen h
  | true =>
    obtain ⟨b, off, rfl, hp2⟩ := hp.head (by have := (Rc.few_iff row n).1 h; omega)
    exact placed12_some seq row b off n cap f w hin hp2 h

set_option maxRecDepth 100000 in
set_option maxHeartbeats 2000000 in
theorem May12_some (seq row : Int) (b off n cap : Nat) (f : Nat → Prt) (w : World) (hin : RecIn row n f) (hp : ∀ j, j < n → PartAt w b (off + j * 3) (f j)) :
    Calls Tryz.prog 69 #[.agg #[.int .u64 seq, .int .i64 row, .slice (some ⟨b, off, none⟩) n cap]] w fun e w' => e = .returned (.bool (Rc.mayB row n f)) ∧ Below w.heap.size w w' := by
  have hPl := fun (W : World) (hW : Below w.heap.size w W) => placed12_any seq row (some ⟨b, off, none⟩) n cap f W hin (fun j hj => ⟨b, off, rfl, (hp j hj).below hW (hp j hj).lt⟩)
  have HP : Hid (∀ j, j < n → PartAt w b (off + j * 3) (f j)) := hp
  have HPl : Hid _ := hPl
  have hlen := hin.hlen
  clear hp hin hPl
  go_enter Tryz.func69, Tryz.ntmps69
  go_wp2
  go_loopg [8] n (fun gg i wr => ∃ k : Nat, k ≤ n ∧ gg = n - k ∧ i = .int .i64 (k : Int) ∧ Below (w.alloc (.cells #[.int .u64 seq, .int .i64 row, .slice (some ⟨b, off, none⟩) n cap] 71)).heap.size (w.alloc (.cells #[.int .u64 seq, .int .i64 row, .slice (some ⟨b, off, none⟩) n cap] 71)) wr ∧ Rc.fullTo f k = true)
  case atStart => exact ⟨0, Nat.zero_le _, rfl, rfl, Below.refl _ _, rfl⟩
  case round =>
  obtain ⟨k, hk, rfl, rfl, hb, hfu⟩ := hrel
  have HF : Hid (Rc.fullTo f k = true) := hfu
  have HB : Hid (Below (w.alloc (.cells #[.int .u64 seq, .int .i64 row, .slice (some ⟨b, off, none⟩) n cap] 71)).heap.size (w.alloc (.cells #[.int .u64 seq, .int .i64 row, .slice (some ⟨b, off, none⟩) n cap] 71)) wr) := hb
  have HBW : Hid (Below w.heap.size w wr) := box_below hb
  have d0 : wr.cell? ⟨w.heap.size, 0, none⟩ = some (.int .u64 seq) := box_cell hb 0
  have d1 : wr.cell? ⟨w.heap.size, 1, none⟩ = some (.int .i64 row) := box_cell hb 1
  have d2 : wr.cell? ⟨w.heap.size, 2, none⟩ = some (.slice (some ⟨b, off, none⟩) n cap) := box_cell hb 2
  have hszr := hb.size
  clear hfu hb
  by_cases hlt : k < n
  case neg =>
    have hkn : k = n := by omega
    subst hkn
    have hpl := HPl.out _ HBW.out
    clear hlt hk
    go_wp2_with fail
    refine Calls.mono hpl ?_
    rintro e w2 ⟨rfl, b2⟩
    have HB2 : Hid (Below w.heap.size w w2) := below2 HBW.out b2
    clear b2 hpl
    go_wp2
    go_ret
    refine ⟨?_, HB2.out⟩
    show Ending.returned (.bool (Rc.placesB row k f)) = _
    unfold Rc.mayB
    rw [HF.out, Bool.true_and]
  case pos =>
  have hki : (k : Int) < (n : Int) := by omega
  have hpk := (HP.out k hlt).below HBW.out (HP.out k hlt).lt
  have c0 := hpk.c0
  have c1 := hpk.c1
  have c2 := hpk.c2
  obtain ⟨x, hx⟩ : ∃ x, x = f k := ⟨_, rfl⟩
  rw [← hx] at c0 c1 c2
  have HS : Hid (x = f k) := hx
  obtain ⟨xc, xo, s⟩ := x
  dsimp only at c0 c1 c2
  have BX : Hid (Below w.heap.size w (wr.alloc (.cells #[.int .i64 xc, .int .i64 xo, .string s] 83))) := HBW.out.alloc HBW.out.size _
  have BR : Hid (Below (w.alloc (.cells #[.int .u64 seq, .int .i64 row, .slice (some ⟨b, off, none⟩) n cap] 71)).heap.size (w.alloc (.cells #[.int .u64 seq, .int .i64 row, .slice (some ⟨b, off, none⟩) n cap] 71)) (wr.alloc (.cells #[.int .i64 xc, .int .i64 xo, .string s] 83))) := HB.out.alloc hszr _
  clear hpk hx d0 d1 d2 hszr
  by_cases h64 : s.size = 64
  · have hne : ((s.size : Int) != 64) = false := by rw [bne_eq_false_iff_eq]; omega
    have HN : Hid (Rc.fullTo f (k + 1) = true) := by show _ = _; unfold Rc.fullTo; rw [HF.out, ← HS.out, h64]; rfl
    clear h64
    go_wp2
    go_roundg (n - (k + 1))
    case measure => omega
    case rel => exact ⟨k + 1, by omega, rfl, by go_num, BR.out, HN.out⟩
  · have hne : ((s.size : Int) != 64) = true := by rw [bne_iff_ne]; omega
    have HNo : Hid (Rc.mayB row n f = false) := by show _ = _; unfold Rc.mayB; rw [Rc.fullTo_not hlt (by rw [← HS.out]; exact h64)]; rfl
    clear h64
    go_wp2
    go_ret
    exact ⟨by rw [HNo.out]; rfl, BX.out⟩

set_option maxRecDepth 100000 in
set_option maxHeartbeats 2000000 in
theorem May12_nil (seq row : Int) (a : Option Addr) (cap : Nat) (f : Nat → Prt) (w : World) (hin : RecIn row 0 f) :
    Calls Tryz.prog 69 #[.agg #[.int .u64 seq, .int .i64 row, .slice a 0 cap]] w fun e w' => e = .returned (.bool (Rc.mayB row 0 f)) ∧ Below w.heap.size w w' := by
  have hPl := fun (W : World) => placed12_any seq row a 0 cap f W hin (PartsR.nil W a f)
  have HPl : Hid _ := hPl
  clear hPl
  go_enter Tryz.func69, Tryz.ntmps69
  go_wp2
  go_loopg [8] 0 (fun gg i wr => gg = 0 ∧ i = .int .i64 0 ∧ wr = w.alloc (.cells #[.int .u64 seq, .int .i64 row, .slice a 0 cap] 71))
  case atStart => exact ⟨rfl, rfl, rfl⟩
  case round =>
  obtain ⟨rfl, rfl, rfl⟩ := hrel
  have AB : Hid (Below w.heap.size w (w.alloc (.cells #[.int .u64 seq, .int .i64 row, .slice a 0 cap] 71))) := (Below.refl _ w).alloc (Nat.le_refl _) _
  go_wp2_with fail
  refine Calls.mono (HPl.out _) ?_
  rintro e w2 ⟨rfl, b2⟩
  go_wp2
  go_ret
  exact ⟨rfl, AB.out.trans (b2.mono AB.out.size)⟩

/-- the program's own May, of any record -/
theorem May12_any (seq row : Int) (a : Option Addr) (n cap : Nat) (f : Nat → Prt) (w : World) (hin : RecIn row n f) (hp : PartsR w a n f) :
    Calls Tryz.prog 69 #[.agg #[.int .u64 seq, .int .i64 row, .slice a n cap]] w fun e w' => e = .returned (.bool (Rc.mayB row n f)) ∧ Below w.heap.size w w' := by
  cases n with
  | zero => exact May12_nil seq row a cap f w hin
  | succ n =>
    obtain ⟨b, off, rfl, hp2⟩ := hp.head (Nat.succ_pos n)
    exact May12_some seq row b off (n + 1) cap f w hin hp2
end Go.Proofs.YtjmeiifogblmoaaGreatDoor
