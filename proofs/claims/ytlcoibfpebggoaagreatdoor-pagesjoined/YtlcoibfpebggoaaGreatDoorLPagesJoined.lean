/- For every texts and numbers the law PagesJoined returns true: what was saved on any drive that is read is in what is joined; with fewer drives nothing more is. Conditions: the library's tables unicode/utf8.acceptRanges and unicode/utf8.first, which the call never reads, hold what they are laid with (tied to the program's text by the card). -/
import Derived.Test.YtlcoibfpebggoaaGreatDoorPgJnT
import Derived.Test.YtlcoibfpebggoaaGreatDoorShown11
import Derived.Test.YtlcoibfpebggoaaGreatDoorPgDid
import Derived.Test.YtlcoibfpebggoaaGreatDoorKitGrowL
import Derived.Test.YtlcoibfpebggoaaGreatDoorMDrvC
import Derived.Test.YtlcoibfpebggoaaGreatDoorKitDet
import Derived.Test.YtlcoibfpebggoaaGreatDoorCards
import Derived.Test.YtlcoibfpebggoaaGreatDoorTie
import Derived.SliceStrings
import Derived.ProofKit
import Derived.OpenShut
import Derived.ShutString
import Derived.BigQuiet
import Derived.Deep.AppendLies
import Derived.Deep.LoopGhost
import Derived.Lay
import Derived.LaidOnce
import Derived.Stop.Joined
import Derived.SevenTiedAt
import Derived.Test.YtlcoibfpebggoaaGreatDoorKitStr
namespace Go.Proofs.YtlcoibfpebggoaaGreatDoor.pagesJoined
open Go.ChangeShapes Go.WideShapes Go.ChangeAt Go.RowKit
open Go.ChangeMaps (open_string shut_string)

theorem many_oneJ (w : World) {B : Nat} (hB : B ≤ w.heap.size) (pp : Nat → Nat) (R : Nat → Dr) : Many (w.alloc (.cells #[] 39)) B 1 (tbJ (.slice (some ⟨w.heap.size, 0, none⟩) 0 0) pp R 0) := by
  have h0 := Many.empty w hB 1
  have r0 := World.ownsRow_lit (base := 0) (e := 39) (size := 1) w #[] 0 (Nat.zero_le _) (by decide) rfl
  refine (Many.fresh h0 (i := 0) (by decide) (T' := rowT 39 (.slice (some ⟨w.heap.size, 0, none⟩) 0 0) []) (G := fun k => w.heap.size ≤ k) ((Below.refl _ w).alloc (Nat.le_refl _) _) ⟨r0, fun g e => by cases e; exact Nat.le_refl _⟩ (fun _ h => h)).congr fun x hx => ?_
  have : x = 0 := by omega
  subst this
  rfl

set_option maxRecDepth 100000 in
set_option maxHeartbeats 4000000 in
theorem walk_some (P : PgDoes) (SH : Shown) (w : World) (b off len0 cap0 b1 off1 len1 cap1 N : Nat) (h0m : len0 ≤ maxLen) (_h1m : len1 ≤ maxLen) (hN : N = min len0 (min len1 8)) (hpos : 0 < N) (Sx : Nat → ByteArray) (Ex : Nat → Nat)
    (hSm : ∀ j, (Sx j).size ≤ maxLen) (hE : ∀ j, Ex j < 18446744073709551616) (hS0 : ∀ j, j < N → w.cell? ⟨b, off + j, none⟩ = some (.string (Sx j))) (hE0 : ∀ j, j < N → w.cell? ⟨b1, off1 + j, none⟩ = some (.int .u64 ((Ex j : Nat) : Int)))
    (v : Nat) (hv : v < 18446744073709551616) (dd : Nat) (hdd : dd < 256) :
    Calls Tryz.prog 5 #[.slice (some ⟨b, off, none⟩) len0 cap0, .slice (some ⟨b1, off1, none⟩) len1 cap1, .int .u64 (v : Int), .int .u8 (dd : Int)] w fun e w' => e = .returned (.bool true) ∧ Below w.heap.size w w' := by
  have hpi : (Tryz.prog.info? 39).map (fun i => (i.zero, i.size, i.bytes)) = some (some (.pointer none), 1, 8) := by kernel_rfl
  obtain ⟨iP, hP0, hP1, hP2, hP3⟩ := info_parts hpi
  have hmin : ∀ (ts : Array TypeId) (ty : TypeId) (W : World), (Builtin.min_ ts ty #[.int .i64 (len0 : Int), .int .i64 (len1 : Int), .int .i64 8]).run Tryz.prog W = .ok (.int .i64 (N : Int)) W := by
    intro ts ty W
    simp [Builtin.min_, Builtin.min2]
    omega
  have hN0 : N ≤ len0 := by omega
  have hN1 : N ≤ len1 := by omega
  have hN8 : N ≤ 8 := by omega
  unfold maxLen at h0m _h1m
  have hmx : Tryz.prog.follows .mixedOrders = true := by kernel_rfl
  have HMX : Hid (Tryz.prog.follows .mixedOrders = true) := hmx
  have HS0 : Hid (∀ j, j < N → w.cell? ⟨b, off + j, none⟩ = some (.string (Sx j))) := hS0
  have HE0 : Hid (∀ j, j < N → w.cell? ⟨b1, off1 + j, none⟩ = some (.int .u64 ((Ex j : Nat) : Int))) := hE0
  have HE : Hid (∀ j, Ex j < 18446744073709551616) := hE
  have HSm : Hid (∀ j, (Sx j).size ≤ maxLen) := hSm
  have HV : Hid (v < 18446744073709551616) := hv
  have HP : Hid (0 < N) := hpos
  have H8 : Hid (N ≤ 8) := hN8
  have ht : dd % N < N := Nat.mod_lt _ hpos
  obtain ⟨t, htt⟩ : ∃ t, t = dd % N := ⟨_, rfl⟩
  have hrem : (dd : Int).tmod (N : Int) = (t : Int) := by rw [htt]; exact (Int.ofNat_tmod dd N).symm
  rw [← htt] at ht
  have HT : Hid (t < N) := ht
  have HR : Hid ((dd : Int).tmod (N : Int) = (t : Int)) := hrem
  clear hpi hN hS0 hE0 hE hSm hmx hv hpos htt ht hrem
  go_enter Tryz.func5, Tryz.ntmps5
  go_wp2
  go_loopg [10, 11] N (fun gg x i wr => ∃ (k : Nat) (pp : Nat → Nat) (y : Value), k ≤ N ∧ gg = N - k ∧ y = x ∧ i = .int .i64 k ∧ Many wr w.heap.size (k + 1) (tbJ y pp (drJ Ex Sx) k) ∧ Below w.heap.size w wr ∧ ∀ j, j < k → (Sx j).size ≤ 100)
  case atStart => exact ⟨0, fun _ => 0, _, Nat.zero_le _, rfl, rfl, rfl, many_oneJ w (Nat.le_refl _) _ _, (Below.refl _ w).alloc (Nat.le_refl _) _, fun j hj => absurd hj (Nat.not_lt_zero _)⟩
  case round =>
  obtain ⟨k, pp, x, hk, rfl, rfl, rfl, hM, hb, hsz⟩ := hrel
  have HM : Hid (Many wr w.heap.size (k + 1) (tbJ x pp (drJ Ex Sx) k)) := hM
  have HB : Hid (Below w.heap.size w wr) := hb
  have HZ : Hid (∀ j, j < k → (Sx j).size ≤ 100) := hsz
  obtain ⟨a5, c5, rfl⟩ := head_of hM (i := 0) (by omega) rfl (lst_length k pp)
  have hk8 : k ≤ 8 := Nat.le_trans hk H8.out
  clear hM hb hsz
  by_cases hlt : k < N
  case pos =>
    have hki : (k : Int) < (N : Int) := by omega
    have hk0 : (k : Int) < (len0 : Int) := by omega
    have hk1 : (k : Int) < (len1 : Int) := by omega
    have hs := HS0.out k hlt
    have he := HE0.out k hlt
    have s0 := (HB.out.cell (p := ⟨b, off + k, none⟩) (World.block_lt_of_cell? w _ hs)).trans hs
    have e0 := (HB.out.cell (p := ⟨b1, off1 + k, none⟩) (World.block_lt_of_cell? w _ he)).trans he
    have hE64 := HE.out k
    have hSz := HSm.out k
    obtain ⟨sv1, sv2, sv3⟩ := drJ_saved (S := Sx) HE.out k
    have hbt := fun (h : (Sx k).size ≤ 100) (W : World) => bits_any (Sx k) h W
    have hSave := fun (W : World) (F : Nat → Prop) (p : Nat) (hd : (drvT p (Dr.fresh 3)).is W F) => P.save hd fresh3_fit ⟨Ex k, bits8 (Sx k)⟩ hE64
    rw [sv1] at hSave
    change ∀ (W : World) (F : Nat → Prop) (p : Nat) (hd : (drvT p (Dr.fresh 3)).is W F), Calls Tryz.prog 14 _ W fun e w' => e = _ ∧ (drvT p (drJ Ex Sx k)).is w' (Plus F W.heap.size) ∧ Only F W w' at hSave
    obtain ⟨s, es⟩ : ∃ s, s = Sx k := ⟨_, rfl⟩
    obtain ⟨ev, eev⟩ : ∃ ev, ev = Ex k := ⟨_, rfl⟩
    obtain ⟨u, eu⟩ : ∃ u, u = bits8 s := ⟨_, rfl⟩
    obtain ⟨D, eD⟩ : ∃ D, D = drJ Ex Sx k := ⟨_, rfl⟩
    rw [← eD] at hSave
    rw [← es] at s0 hSz hbt hSave
    rw [← eev] at e0 hE64 hSave
    rw [← eu] at hbt hSave
    unfold pgV at hSave
    unfold maxLen at hSz
    dsimp only at hSave
    have ED : Hid (D = drJ Ex Sx k) := eD
    have ES : Hid (s = Sx k) := es
    have HSv : Hid _ := hSave
    clear hs he sv1 sv2 sv3 eD es eev eu hSave
    by_cases hl : s.size ≤ 100
    case neg =>
      have hl2 : (100 : Int) < (s.size : Int) := by omega
      clear hbt hl
      go_wp2_with fail
      refine (SH _).mono ?_
      rintro e w2 ⟨rfl, b2⟩
      go_wp2
      go_ret
      exact ⟨rfl, below2 HB.out b2⟩
    case pos =>
      have hl2 : ¬ (100 : Int) < (s.size : Int) := by omega
      have hbt2 := hbt hl
      clear hbt
      go_wp2_with fail
      refine (new_yes 3 (by decide) (by decide) _).mono ?_
      rintro e w2 ⟨p, rfl, hd, b2⟩
      have s2 := (b2.cell (p := ⟨b, off + k, none⟩) (World.block_lt_of_cell? wr _ s0)).trans s0
      have e2 := (b2.cell (p := ⟨b1, off1 + k, none⟩) (World.block_lt_of_cell? wr _ e0)).trans e0
      have HBT : Hid _ := hbt2
      have HSq : Hid (∀ W, Below w2.heap.size w2 W → Calls Tryz.prog 14 #[.pointer (some ⟨p, 0, none⟩), .agg #[.int .u64 (ev : Int), .string u]] W fun e w' => e = .returned (.int .i64 0) ∧ (drvT p D).is w' (fun j => wr.heap.size ≤ j) ∧ Below wr.heap.size W w') := fun W hW => by
        have hsz : wr.heap.size ≤ W.heap.size := Nat.le_trans b2.size hW.size
        refine (HSv.out W _ p ((drvT p (Dr.fresh 3)).below hd hW)).mono ?_
        rintro e w' ⟨he, hi, ho⟩
        exact ⟨he, (drvT p D).mono hi (fun j hj => hj.elim id (fun h => Nat.le_trans hsz h)), ho.below (fun _ h => h) hsz⟩
      have B2 : Hid (Below wr.heap.size wr w2) := b2
      have hll : Hid (s.size ≤ 100) := hl
      have KC : Hid (∀ W, Below wr.heap.size wr W → W.cell? ⟨b1, off1 + k, none⟩ = some (.int .u64 (ev : Int)) ∧ W.cell? ⟨b, off + k, none⟩ = some (.string s)) := fun W hW => ⟨(hW.cell (p := ⟨b1, off1 + k, none⟩) (World.block_lt_of_cell? wr _ e0)).trans e0, (hW.cell (p := ⟨b, off + k, none⟩) (World.block_lt_of_cell? wr _ s0)).trans s0⟩
      clear hd b2 HSv s0 e0 hbt2 hl
      go_wp2_with fail
      refine wp_region_held (S := fun W => W.cell? ⟨b1, off1 + k, none⟩ = some (.int .u64 (ev : Int)) ∧ W.cell? ⟨b, off + k, none⟩ = some (.string s)) HMX.out ?_
      have hS : (fun W : World => W.cell? ⟨b1, off1 + k, none⟩ = some (.int .u64 (ev : Int)) ∧ W.cell? ⟨b, off + k, none⟩ = some (.string s)) w2.drew := ⟨e2, s2⟩
      change wpAnyH _ _ _ _ _ _ _ _ w2.drew
      refine held_quiet 0 (v := ?v0q1) rfl (by kernel_rfl) (fun _ _ _ h => h) (by assumption) rfl ?hy0q1 ?rest0q1
      case hy0q1 => (intro wS hSw; (try dsimp only at hSw); go_simp; try with_reducible rfl)
      try simp only [Act.put, List.setIfInBounds_toArray, List.set_cons_zero, List.set_cons_succ]
      refine held_quiet 1 (v := ?v1q2) rfl (by kernel_rfl) (fun _ _ _ h => h) (by assumption) rfl ?hy1q2 ?rest1q2
      case hy1q2 => (intro wS hSw; (try dsimp only at hSw); go_simp; try with_reducible rfl)
      try simp only [Act.put, List.setIfInBounds_toArray, List.set_cons_zero, List.set_cons_succ]
      refine held_quiet 2 (v := ?v2q3) rfl (by kernel_rfl) (fun _ _ _ h => h) (by assumption) rfl ?hy2q3 ?rest2q3
      case hy2q3 => (intro wS hSw; (try dsimp only at hSw); go_simp; try with_reducible rfl)
      try simp only [Act.put, List.setIfInBounds_toArray, List.set_cons_zero, List.set_cons_succ]
      refine held_quiet 3 (v := ?v3q4) rfl (by kernel_rfl) (fun _ _ _ h => h) (by assumption) rfl ?hy3q4 ?rest3q4
      case hy3q4 => (intro wS hSw; (try dsimp only at hSw); go_simp; try with_reducible rfl)
      try simp only [Act.put, List.setIfInBounds_toArray, List.set_cons_zero, List.set_cons_succ]
      refine held_quiet 4 (v := ?v4q5) rfl (by kernel_rfl) (fun _ _ _ h => h) (by assumption) rfl ?hy4q5 ?rest4q5
      case hy4q5 => (intro wS hSw; (try dsimp only at hSw); go_simp; try with_reducible rfl)
      try simp only [Act.put, List.setIfInBounds_toArray, List.set_cons_zero, List.set_cons_succ]
      refine held_quiet 5 (v := ?v5q6) rfl (by kernel_rfl) (fun _ _ _ h => h) (by assumption) rfl ?hy5q6 ?rest5q6
      case hy5q6 => (intro wS hSw; (try dsimp only at hSw); go_simp; try with_reducible rfl)
      try simp only [Act.put, List.setIfInBounds_toArray, List.set_cons_zero, List.set_cons_succ]
      refine held_quiet 6 (v := ?v6q7) rfl (by kernel_rfl) (fun _ _ _ h => h) (by assumption) rfl ?hy6q7 ?rest6q7
      case hy6q7 => (intro wS hSw; (try dsimp only at hSw); go_simp; try with_reducible rfl)
      try simp only [Act.put, List.setIfInBounds_toArray, List.set_cons_zero, List.set_cons_succ]
      refine held_quiet 7 (v := ?v7q8) rfl (by kernel_rfl) (fun _ _ _ h => h) (by assumption) rfl ?hy7q8 ?rest7q8
      case hy7q8 => (intro wS hSw; (try dsimp only at hSw); go_simp; try with_reducible rfl)
      try simp only [Act.put, List.setIfInBounds_toArray, List.set_cons_zero, List.set_cons_succ]
      refine held_quiet 8 (v := ?v8q9) rfl (by kernel_rfl) (fun _ _ _ h => h) (by assumption) rfl ?hy8q9 ?rest8q9
      case hy8q9 => (intro wS hSw; (try dsimp only at hSw); go_simp; try with_reducible rfl)
      try simp only [Act.put, List.setIfInBounds_toArray, List.set_cons_zero, List.set_cons_succ]
      refine held_quiet 9 (v := ?v9q10) rfl (by kernel_rfl) (fun _ _ _ h => h) (by assumption) rfl ?hy9q10 ?rest9q10
      case hy9q10 => (intro wS hSw; (try dsimp only at hSw); go_simp; try with_reducible rfl)
      try simp only [Act.put, List.setIfInBounds_toArray, List.set_cons_zero, List.set_cons_succ]
      refine held_quiet 10 (v := ?v10q11) rfl (by kernel_rfl) (fun _ _ _ h => h) (by assumption) rfl ?hy10q11 ?rest10q11
      case hy10q11 => (intro wS hSw; (try dsimp only at hSw); go_simp; try with_reducible rfl)
      try simp only [Act.put, List.setIfInBounds_toArray, List.set_cons_zero, List.set_cons_succ]
      refine held_quiet 11 (v := ?v11q12) rfl (by kernel_rfl) (fun _ _ _ h => h) (by assumption) rfl ?hy11q12 ?rest11q12
      case hy11q12 => (intro wS hSw; (try dsimp only at hSw); go_simp; try with_reducible rfl)
      try simp only [Act.put, List.setIfInBounds_toArray, List.set_cons_zero, List.set_cons_succ]
      refine held_one 12 rfl (by kernel_rfl) ?_
      go_wp2_with (go_at_call 24; refine (HBT.out _).mono ?_; rintro e w3 ⟨rfl, rfl⟩)
      try refine ⟨hS, ?_⟩
      refine held_quiet 13 (v := ?v13q13) rfl (by kernel_rfl) (fun _ _ _ h => h) (by assumption) rfl ?hy13q13 ?rest13q13
      case hy13q13 => (intro wS hSw; (try dsimp only at hSw); go_simp; try with_reducible rfl)
      try simp only [Act.put, List.setIfInBounds_toArray, List.set_cons_zero, List.set_cons_succ]
      refine held_one 14 rfl (by kernel_rfl) ?_
      go_wp2_with (go_at_call 14; refine (HSq.out _ (Below.refl _ _).drew).mono ?_; rintro e w4 ⟨rfl, hd4, b4⟩)
      have hb4 : Below wr.heap.size wr w4 := B2.out.trans ((Below.refl _ _).drew.trans b4)
      have hS4 : w4.cell? ⟨b1, off1 + k, none⟩ = some (.int .u64 (ev : Int)) ∧ w4.cell? ⟨b, off + k, none⟩ = some (.string s) := by
        exact ⟨(KC.out w4 hb4).1, (KC.out w4 hb4).2⟩
      try refine ⟨hS4, ?_⟩
      have M4 : Hid (Many w4 w.heap.size (k + 2) (swap1 (tbJ (.slice a5 k c5) pp (drJ Ex Sx) k) (k + 1) (drvT p D))) := Many.add HM.out hb4 hd4 (fun _ h => h)
      have BB4 : Hid (Below w.heap.size w w4) := below2 HB.out hb4
      have O4 : Hid (w4.ownsRow 0 39 1 (.slice a5 k c5) k (lst k pp)) := many_own M4.out (i := 0) (by omega) (by rw [swap1_other _ _ (by omega)]; rfl) (lst_length k pp).symm
      have t1 : True := trivial
      clear hd4 b4 hb4 e2 s2 HM
      refine held_quiet 15 (v := ?v15q14) rfl (by kernel_rfl) (fun _ _ _ h => h) (by assumption) rfl ?hy15q14 ?rest15q14
      case hy15q14 => (intro wS hSw; (try dsimp only at hSw); go_simp; try with_reducible rfl)
      try simp only [Act.put, List.setIfInBounds_toArray, List.set_cons_zero, List.set_cons_succ]
      refine held_quiet 16 (v := ?v16q15) rfl (by kernel_rfl) (fun _ _ _ h => h) (by assumption) rfl ?hy16q15 ?rest16q15
      case hy16q15 => (intro wS hSw; (try dsimp only at hSw); go_simp; try with_reducible rfl)
      try simp only [Act.put, List.setIfInBounds_toArray, List.set_cons_zero, List.set_cons_succ]
      refine held_done (by kernel_rfl) ?_
      go_wp2_with (first | (at_builtin; have _t := t1; refine wpList_append_lies _ rfl _ _ 37 rfl 0 39 iP (.pointer none) 1 8 Tryz.underlying37 hP0 hP1 hP2 hP3 rfl (by decide) (.slice a5 k c5) k (lst k pp) rfl (O4.out.alloc _) ⟨_, 0, none⟩ 1 1 [.pointer (some ⟨p, 0, none⟩)] rfl rfl (cell_one_new _ _ _) (by simp [Value.oneCell']) (by decide) (by unfold maxLen; omega) (by omega) (Nat.zero_le _) _ rfl ?_; intro g5 c6 w5 own1 grow1 lies1 lt1; obtain ⟨m5, b5⟩ := many_growL M4.out (i := 0) (by omega) (l := lst k pp) (v := .slice a5 k c5) (by rw [swap1_other _ _ (by omega)]; rfl) (l' := lst k pp ++ [.pointer (some ⟨p, 0, none⟩)]) (by rw [List.length_append, lst_length]; rfl) ((Below.refl _ _).alloc (Nat.le_refl _) _) own1 grow1 lies1; have M5 : Hid (Many w5 w.heap.size (k + 2) (tbJ (.slice (some ⟨g5, 0, none⟩) (k + 1) c6) (swap1 pp k p) (drJ Ex Sx) (k + 1))) := m5.congr (fun x hx => tbJ_grow ED.out x hx); have BB5 : Hid (Below w.heap.size w w5) := BB4.out.trans b5; clear m5 b5 own1 grow1 lies1 lt1 t1))
      go_roundg (N - (k + 1))
      case measure => omega
      case rel => exact ⟨k + 1, _, _, by omega, rfl, rfl, by go_num, M5.out, BB5.out, fun j hj => by
        by_cases e : j = k
        · subst e; rw [← ES.out]; exact hll.out
        · exact HZ.out j (by omega)⟩
  case neg =>
    have hkn : k = N := by omega
    subst hkn
    have htk := HT.out
    clear hlt hk
    obtain ⟨A, hA⟩ : ∃ A : ByteArray, A = ⟨(Pg.joinL Pg.whoN (drJ Ex Sx) v k).toArray⟩ := ⟨_, rfl⟩
    obtain ⟨C, hC⟩ : ∃ C : ByteArray, C = ⟨(Pg.joinL Pg.whoN (drK Ex Sx t) v k).toArray⟩ := ⟨_, rfl⟩
    have hA8 : A.size = 8 := by rw [hA, Pg.mk_size]; exact Pg.joinL_length _ _ _ _
    have hC8 : C.size = 8 := by rw [hC, Pg.mk_size]; exact Pg.joinL_length _ _ _ _
    have HJ1 : Hid (∀ {W : World} {a : Option Addr}, Many W w.heap.size (k + 1) (tbJ (.slice a k c5) pp (drJ Ex Sx) k) → Calls Tryz.prog 27 #[.slice a k c5, .int .u64 (v : Int)] W fun e w' => e = .returned (.tuple #[.string A, .bool (Pg.joinB Pg.whoN (drJ Ex Sx) v k)]) ∧ Below W.heap.size W w') := fun {W} {a} h => by
      have hc := P.join h 0 1 k (by omega) (by omega) a c5 (lst k pp) (by rw [lst_length]; rfl) pp (drJ Ex Sx) (fun i _ => tbJ_drv) Pg.whoN (listedN k pp) (fun i _ => drJ_goes i) (by rw [lst_length]; omega) v HV.out
      rw [lst_length, ← hA] at hc
      exact hc
    have HJ2 : Hid (∀ {W : World} {a : Option Addr}, Many W w.heap.size (k + 1) (tbJ (.slice a k c5) pp (drK Ex Sx t) k) → Calls Tryz.prog 27 #[.slice a k c5, .int .u64 (v : Int)] W fun e w' => e = .returned (.tuple #[.string C, .bool (Pg.joinB Pg.whoN (drK Ex Sx t) v k)]) ∧ Below W.heap.size W w') := fun {W} {a} h => by
      have hc := P.join h 0 1 k (by omega) (by omega) a c5 (lst k pp) (by rw [lst_length]; rfl) pp (drK Ex Sx t) (fun i _ => tbJ_drv) Pg.whoN (listedN k pp) (fun i _ => drK_goes t i) (by rw [lst_length]; omega) v HV.out
      rw [lst_length, ← hC] at hc
      exact hc
    have HDie : Hid (∀ {W : World} {a : Option Addr}, Many W w.heap.size (k + 1) (tbJ (.slice a k c5) pp (drJ Ex Sx) k) → Calls Tryz.prog 21 #[.pointer (some ⟨pp t, 0, none⟩)] W fun e w' => e = .returned (.tuple #[]) ∧ Many w' w.heap.size (k + 1) (tbJ (.slice a k c5) pp (drK Ex Sx t) k) ∧ Below w.heap.size W w') := fun {W} {a} h => by
      have hz := h.size
      refine (h.call (i := 1 + t) (by omega) (drvT (pp t) (drJ Ex Sx t).die) (Q := fun e => e = .returned (.tuple #[])) (fun F hF _ => ?_)).mono ?_
      · rw [tbJ_drv] at hF
        refine (die_any hF).mono ?_
        rintro e w' ⟨he, hd, ho⟩
        exact ⟨he, hd.mono (fun _ h => .inl h), ho⟩
      · rintro e w' ⟨he, hm, ho⟩
        exact ⟨he, hm.congr (fun x _ => tbJ_turn _ x), ho.below (fun _ hk => hk.1) hz⟩
    have HSub : Hid (∀ j, j < 8 → Pg.Sub8 ((Pg.joinL Pg.whoN (drK Ex Sx t) v k).getD j 0) ((Pg.joinL Pg.whoN (drJ Ex Sx) v k).getD j 0)) := fun j hj => some_less k t v hj
    have HAe : Hid (A = ⟨(Pg.joinL Pg.whoN (drJ Ex Sx) v k).toArray⟩ ∧ C = ⟨(Pg.joinL Pg.whoN (drK Ex Sx t) v k).toArray⟩) := ⟨hA, hC⟩
    have HA8 : Hid (A.size = 8) := hA8
    have HC8 : Hid (C.size = 8) := hC8
    obtain ⟨f1, hf1⟩ : ∃ f1, f1 = Pg.joinB Pg.whoN (drJ Ex Sx) v k := ⟨_, rfl⟩
    obtain ⟨f2, hf2⟩ : ∃ f2, f2 = Pg.joinB Pg.whoN (drK Ex Sx t) v k := ⟨_, rfl⟩
    rw [← hf1] at HJ1
    rw [← hf2] at HJ2
    clear hA hC hf1 hf2
    have hpi2 : (0 : Int) < (k : Int) := by have := HP.out; omega
    go_wp2_with fail
    refine (HJ1.out HM.out).mono ?_
    rintro e w2 ⟨rfl, b2⟩
    have M2 : Hid (Many w2 w.heap.size (k + 1) (tbJ (.slice a5 k c5) pp (drJ Ex Sx) k)) := HM.out.below b2
    have B2 : Hid (Below w.heap.size w w2) := below2 HB.out b2
    obtain ⟨g5, rfl, hc5⟩ := many_at M2.out (i := 0) (by omega) rfl (lst_at pp htk)
    have hdie := HDie.out M2.out
    obtain ⟨pt, hpt⟩ : ∃ pt, pt = pp t := ⟨_, rfl⟩
    rw [← hpt] at hc5 hdie
    have hti : (t : Int) < (k : Int) := by omega
    have hrem := HR.out
    clear b2 HM HB HJ1 hpt
    go_wp2_with fail
    refine Calls.mono hdie ?_
    rintro e w3 ⟨rfl, m3, b3⟩
    have M3 : Hid (Many w3 w.heap.size (k + 1) (tbJ (.slice (some ⟨g5, 0, none⟩) k c5) pp (drK Ex Sx t) k)) := m3
    have B3 : Hid (Below w.heap.size w w3) := B2.out.trans b3
    clear hdie m3 b3 hc5 M2 B2 HDie
    go_wp2_with fail
    refine (HJ2.out M3.out).mono ?_
    rintro e w4 ⟨rfl, b4⟩
    have B4 : Hid (Below w.heap.size w w4) := below2 B3.out b4
    have a8 : (A.size : Int) = 8 := by have := HA8.out; omega
    have c8 : (C.size : Int) = 8 := by have := HC8.out; omega
    have nA : ((A.size : Int) != 8) = false := by rw [a8]; rfl
    have nC : ((C.size : Int) != 8) = false := by rw [c8]; rfl
    clear b4 M3 B3 HJ2
    go_wp2
    go_loopg [17] 8 (fun gg i wr => ∃ kk : Nat, kk ≤ 8 ∧ gg = 8 - kk ∧ i = .int .i64 (kk : Int) ∧ Below w.heap.size w wr)
    case atStart => exact ⟨0, Nat.zero_le _, rfl, rfl, B4.out⟩
    case round =>
    obtain ⟨q, hq, rfl, rfl, hbq⟩ := hrel
    have BQ : Hid (Below w.heap.size w wr) := hbq
    clear B4 hbq
    by_cases hq8 : q < 8
    case neg =>
      have hqe : q = 8 := by omega
      subst hqe
      go_wp2_with fail
      refine (SH _).mono ?_
      rintro e w5 ⟨rfl, b5⟩
      go_wp2
      go_ret
      exact ⟨rfl, below2 BQ.out b5⟩
    case pos =>
    have hqi : (q : Int) < 8 := by omega
    have hqA : q < A.size := by have := HA8.out; omega
    have hqC : q < C.size := by have := HC8.out; omega
    obtain ⟨ab, hab⟩ : ∃ ab, ab = A[q]'hqA := ⟨_, rfl⟩
    obtain ⟨cb, hcb⟩ : ∃ cb, cb = C[q]'hqC := ⟨_, rfl⟩
    have hsub : Pg.Sub8 cb ab := by
      have h := HSub.out q hq8
      have e1 : cb = (Pg.joinL Pg.whoN (drK Ex Sx t) v k).getD q 0 := by
        rw [hcb, Pg.byt11_at C q hqC, HAe.out.2]; unfold Pg.byt11; simp
      have e2 : ab = (Pg.joinL Pg.whoN (drJ Ex Sx) v k).getD q 0 := by
        rw [hab, Pg.byt11_at A q hqA, HAe.out.1]; unfold Pg.byt11; simp
      rw [e1, e2]; exact h
    have hand := Pg.u8_andNot hsub
    have HABe : Hid (ab = (Pg.joinL Pg.whoN (drJ Ex Sx) v k).getD q 0 ∧ cb = (Pg.joinL Pg.whoN (drK Ex Sx t) v k).getD q 0) := by
      refine ⟨?_, ?_⟩
      · rw [hab, Pg.byt11_at A q hqA, HAe.out.1]; unfold Pg.byt11; simp
      · rw [hcb, Pg.byt11_at C q hqC, HAe.out.2]; unfold Pg.byt11; simp
    have ha' := hab.symm
    have hc' := hcb.symm
    clear hab hcb hsub
    go_wp2
    go_quiet (fail)
    go_wp2
    rename_i nq
    have BQ2 : Hid (Below w.heap.size w (wr.drewN nq)) := below_drewN BQ.out nq
    clear BQ
    go_loopg [18] k (fun gg i wz => ∃ r : Nat, r ≤ k ∧ gg = k - r ∧ i = .int .i64 (r : Int) ∧ Below w.heap.size w wz)
    case atStart => exact ⟨0, Nat.zero_le _, rfl, rfl, BQ2.out⟩
    case round =>
    obtain ⟨r, hr, rfl, rfl, hbr⟩ := hrel
    have BR : Hid (Below w.heap.size w wr) := hbr
    clear BQ2 hbr
    by_cases hrk : r < k
    case neg =>
      have hre : r = k := by omega
      subst hre
      go_wp2
      go_roundg (8 - (q + 1))
      case measure => omega
      case rel => exact ⟨q + 1, by omega, rfl, by go_num, BR.out⟩
    case pos =>
      have hri : (r : Int) < (k : Int) := by omega
      have hr0 : (r : Int) < (len0 : Int) := by omega
      have hr1 : (r : Int) < (len1 : Int) := by omega
      have hs := HS0.out r hrk
      have he := HE0.out r hrk
      have s0 := (BR.out.cell (p := ⟨b, off + r, none⟩) (World.block_lt_of_cell? w _ hs)).trans hs
      have e0 := (BR.out.cell (p := ⟨b1, off1 + r, none⟩) (World.block_lt_of_cell? w _ he)).trans he
      have hE64 := HE.out r
      have hbt := fun (W : World) => bits_any (Sx r) (HZ.out r hrk) W
      have hu8 := bits8_size (Sx r)
      have hhas := fun (h : v ≤ Ex r) => all_has HE.out hrk h hq8 (S := Sx)
      have hsome := fun (h : v ≤ Ex r) (hn : r ≠ t) => some_has HE.out hrk hn h hq8 (S := Sx)
      rw [← HABe.out.1] at hhas
      rw [← HABe.out.2] at hsome
      obtain ⟨s, es⟩ : ∃ s, s = Sx r := ⟨_, rfl⟩
      obtain ⟨ev, eev⟩ : ∃ ev, ev = Ex r := ⟨_, rfl⟩
      obtain ⟨u, eu⟩ : ∃ u, u = bits8 s := ⟨_, rfl⟩
      rw [← es] at s0 hbt hu8 hhas hsome
      rw [← eev] at e0 hE64 hhas hsome
      rw [← eu] at hbt hu8 hhas hsome
      have hqu : q < u.size := by omega
      have hqui : (q : Int) < (u.size : Int) := by omega
      obtain ⟨ub, hub⟩ : ∃ ub, ub = u[q]'hqu := ⟨_, rfl⟩
      rw [show u.data.toList.getD q 0 = ub by rw [hub, Pg.byt11_at u q hqu]; rfl] at hhas hsome
      have hu' := hub.symm
      have HH : Hid _ := hhas
      have HSo : Hid _ := hsome
      clear hs he es eev eu hub hhas hsome
      by_cases hv : v ≤ ev
      · have hge : ¬ (ev : Int) < (v : Int) := by omega
        have hge2 : (v : Int) ≤ (ev : Int) := by omega
        have hand1 := Pg.u8_andNot (HH.out hv)
        by_cases hrt : r = t
        · have hne : ((r : Int) != (t : Int)) = false := by rw [hrt]; simp
          clear hv hrt
          go_wp2_with fail
          go_quiet ((go_at_call 24; refine Calls.quiet_of_same (hbt _)))
          go_wp2
          go_roundg (k - (r + 1))
          case measure => omega
          case rel => exact ⟨r + 1, by omega, rfl, by go_num, below_drewN BR.out _⟩
        · have hne : ((r : Int) != (t : Int)) = true := by rw [bne_iff_ne]; omega
          have hand2 := Pg.u8_andNot (HSo.out hv hrt)
          clear hv hrt
          go_wp2_with fail
          go_quiet ((go_at_call 24; refine Calls.quiet_of_same (hbt _)))
          go_wp2
          go_roundg (k - (r + 1))
          case measure => omega
          case rel => exact ⟨r + 1, by omega, rfl, by go_num, below_drewN BR.out _⟩
      · have hge : (ev : Int) < (v : Int) := by omega
        have hge2 : ¬ (v : Int) ≤ (ev : Int) := by omega
        have hgd : decide (v ≤ ev) = false := decide_eq_false hv
        have hgd2 : decide ((v : Int) ≤ (ev : Int)) = false := decide_eq_false hge2
        have hgn : ev < v := by omega
        clear hv
        go_wp2_with fail
        go_quiet ((go_at_call 24; refine Calls.quiet_of_same (hbt _)))
        go_wp2
        go_roundg (k - (r + 1))
        case measure => omega
        case rel => exact ⟨r + 1, by omega, rfl, by go_num, below_drewN BR.out _⟩

set_option maxRecDepth 100000 in
set_option maxHeartbeats 4000000 in
theorem walk_nil (P : PgDoes) (SH : Shown) (w : World) (a0 a1 : Option Addr) (len0 cap0 len1 cap1 N : Nat) (_h0m : len0 ≤ maxLen) (_h1m : len1 ≤ maxLen) (hN : N = min len0 (min len1 8)) (hnil : N = 0)
    (v : Nat) (hv : v < 18446744073709551616) (dd : Nat) :
    Calls Tryz.prog 5 #[.slice a0 len0 cap0, .slice a1 len1 cap1, .int .u64 (v : Int), .int .u8 (dd : Int)] w fun e w' => e = .returned (.bool true) ∧ Below w.heap.size w w' := by
  have hmin : ∀ (ts : Array TypeId) (ty : TypeId) (W : World), (Builtin.min_ ts ty #[.int .i64 (len0 : Int), .int .i64 (len1 : Int), .int .i64 8]).run Tryz.prog W = .ok (.int .i64 (N : Int)) W := by
    intro ts ty W
    simp [Builtin.min_, Builtin.min2]
    omega
  unfold maxLen at _h0m _h1m
  have HV : Hid (v < 18446744073709551616) := hv
  have H0 : Hid (N = 0) := hnil
  clear hN hv hnil
  go_enter Tryz.func5, Tryz.ntmps5
  go_wp2
  go_loopg [10, 11] N (fun gg x i wr => ∃ (k : Nat) (y : Value), k ≤ N ∧ gg = N - k ∧ y = x ∧ i = .int .i64 k ∧ Many wr w.heap.size 1 (tbJ y (fun _ => 0) (fun _ => Dr.fresh 3) 0) ∧ Below w.heap.size w wr)
  case atStart => exact ⟨0, _, Nat.zero_le _, rfl, rfl, rfl, many_oneJ w (Nat.le_refl _) _ _, (Below.refl _ w).alloc (Nat.le_refl _) _⟩
  case round =>
  obtain ⟨k, x, hk, rfl, rfl, rfl, hM, hb⟩ := hrel
  have HM : Hid (Many wr w.heap.size 1 (tbJ x (fun _ => 0) (fun _ => Dr.fresh 3) 0)) := hM
  have HB : Hid (Below w.heap.size w wr) := hb
  obtain ⟨a5, c5, rfl⟩ := head_of hM (i := 0) (by omega) rfl (lst_length 0 _)
  clear hM hb
  by_cases hlt : k < N
  case pos => exact absurd hlt (by have := H0.out; omega)
  case neg =>
    have hkn : k = N := by omega
    subst hkn
    clear hlt hk
    obtain ⟨A, hA⟩ : ∃ A : ByteArray, A = ⟨(Pg.joinL Pg.whoN (fun _ => Dr.fresh 3) v 0).toArray⟩ := ⟨_, rfl⟩
    obtain ⟨f1, hf1⟩ : ∃ f1, f1 = Pg.joinB Pg.whoN (fun _ => Dr.fresh 3) v 0 := ⟨_, rfl⟩
    have hA8 : A.size = 8 := by rw [hA, Pg.mk_size]; exact Pg.joinL_length _ _ _ _
    have HJ1 : Hid (∀ {W : World}, Many W w.heap.size 1 (tbJ (.slice a5 0 c5) (fun _ => 0) (fun _ => Dr.fresh 3) 0) → Calls Tryz.prog 27 #[.slice a5 0 c5, .int .u64 (v : Int)] W fun e w' => e = .returned (.tuple #[.string A, .bool f1]) ∧ Below W.heap.size W w') := fun {W} h => by
      have hc := P.join h 0 1 0 (by omega) (by omega) a5 c5 (lst 0 fun _ => 0) (by rw [lst_length]; rfl) (fun _ => 0) (fun _ => Dr.fresh 3) (fun i _ => tbJ_drv) Pg.whoN (listedN 0 _) (fun i hi => absurd hi (Nat.not_lt_zero _)) (by rw [lst_length]; omega) v HV.out
      rw [lst_length, ← hA, ← hf1] at hc
      exact hc
    have HA8 : Hid (A.size = 8) := hA8
    have hpi2 : ¬ (0 : Int) < (k : Int) := by have := H0.out; omega
    clear hA hf1
    go_wp2_with fail
    refine (HJ1.out HM.out).mono ?_
    rintro e w2 ⟨rfl, b2⟩
    have M2 : Hid (Many w2 w.heap.size 1 (tbJ (.slice a5 0 c5) (fun _ => 0) (fun _ => Dr.fresh 3) 0)) := HM.out.below b2
    have B2 : Hid (Below w.heap.size w w2) := below2 HB.out b2
    clear b2 HM HB
    go_wp2_with fail
    refine (HJ1.out M2.out).mono ?_
    rintro e w4 ⟨rfl, b4⟩
    have B4 : Hid (Below w.heap.size w w4) := below2 B2.out b4
    have a8 : (A.size : Int) = 8 := by have := HA8.out; omega
    have nA : ((A.size : Int) != 8) = false := by rw [a8]; rfl
    clear b4 M2 B2 HJ1
    go_wp2
    go_loopg [17] 8 (fun gg i wr => ∃ kk : Nat, kk ≤ 8 ∧ gg = 8 - kk ∧ i = .int .i64 (kk : Int) ∧ Below w.heap.size w wr)
    case atStart => exact ⟨0, Nat.zero_le _, rfl, rfl, B4.out⟩
    case round =>
    obtain ⟨q, hq, rfl, rfl, hbq⟩ := hrel
    have BQ : Hid (Below w.heap.size w wr) := hbq
    clear B4 hbq
    by_cases hq8 : q < 8
    case neg =>
      have hqe : q = 8 := by omega
      subst hqe
      go_wp2_with fail
      refine (SH _).mono ?_
      rintro e w5 ⟨rfl, b5⟩
      go_wp2
      go_ret
      exact ⟨rfl, below2 BQ.out b5⟩
    case pos =>
    have hqi : (q : Int) < 8 := by omega
    have hqA : q < A.size := by have := HA8.out; omega
    obtain ⟨ab, hab⟩ : ∃ ab, ab = A[q]'hqA := ⟨_, rfl⟩
    have hand := Pg.u8_andNot (Pg.Sub8.refl ab)
    have ha' := hab.symm
    clear hab
    go_wp2
    go_quiet (fail)
    go_wp2
    rename_i nq
    have BQ2 : Hid (Below w.heap.size w (wr.drewN nq)) := below_drewN BQ.out nq
    clear BQ
    go_loopg [18] k (fun gg i wz => ∃ r : Nat, r ≤ k ∧ gg = k - r ∧ i = .int .i64 (r : Int) ∧ Below w.heap.size w wz)
    case atStart => exact ⟨0, Nat.zero_le _, rfl, rfl, BQ2.out⟩
    case round =>
    obtain ⟨r, hr, rfl, rfl, hbr⟩ := hrel
    have BR : Hid (Below w.heap.size w wr) := hbr
    clear BQ2 hbr
    by_cases hrk : r < k
    case pos => exact absurd hrk (by have := H0.out; omega)
    case neg =>
      have hre : r = k := by omega
      subst hre
      go_wp2
      go_roundg (8 - (q + 1))
      case measure => omega
      case rel => exact ⟨q + 1, by omega, rfl, by go_num, BR.out⟩

theorem of_laid {W : World} (_ : laidMetH Tryz.prog Rows.pagesJoinedRow.laid W) : True := trivial
theorem walk (w : World) (a0 : Option Addr) (len0 cap0 : Nat) (z0 : List ByteArray) (w0 : IsStrs w a0 len0 cap0 z0) (a1 : Option Addr) (len1 cap1 : Nat) (z1 : List Int) (w1 : IsRow .u64 w a1 len1 cap1 z1) (a2 : Int) (w2 : (Lit.int .u64 a2).wf = true) (a3 : Int) (w3 : (Lit.int .u8 a3).wf = true) (_ : True) :
    Calls Tryz.prog 5 #[.slice a0 len0 cap0, .slice a1 len1 cap1, .int .u64 a2, .int .u8 a3] w fun e w' => e = .returned (.bool true) ∧ Below w.heap.size w w' := by
  have b2 := bounds_u64 w2
  obtain ⟨v, rfl⟩ := Int.eq_ofNat_of_zero_le b2.1
  have b3 := bounds_u8 w3
  obtain ⟨dd, rfl⟩ := Int.eq_ofNat_of_zero_le b3.1
  have hv : v < 18446744073709551616 := by have := b2.2; omega
  obtain ⟨l0, e0, m0, s0, r0⟩ := w0.row
  obtain ⟨l1, e1, m1, s1, r1⟩ := w1.rowN 18446744073709551616 (by decide) (fun x hx => by have := bounds_u64 hx; omega)
  subst e0 e1
  obtain ⟨N, hN⟩ : ∃ N, N = min l0.length (min l1.length 8) := ⟨_, rfl⟩
  by_cases h0 : N = 0
  · exact walk_nil pg_does (shown11 pg_does) w a0 a1 _ cap0 _ cap1 N m0 m1 hN h0 v hv dd
  · obtain ⟨b, off, rfl, _⟩ := r0 0 (by omega)
    obtain ⟨b1, off1, rfl, _⟩ := r1 0 (by omega)
    refine walk_some pg_does (shown11 pg_does) w b off _ cap0 b1 off1 _ cap1 N m0 m1 hN (by omega) (fun j => l0.getD j ByteArray.empty) (fun j => l1.getD j 0) s0 s1 (fun j hj => ?_) (fun j hj => ?_) v hv dd (by have := b3.2; omega)
    · obtain ⟨b', off', e, hc⟩ := r0 j (by omega)
      cases e; exact hc
    · obtain ⟨b', off', e, hc⟩ := r1 j (by omega)
      cases e; exact hc

theorem own : ownKnob Tryz.prog.godebug = none := by kernel_rfl
theorem laidOut : laidOutB Tryz.prog = true := by kernel_rfl
theorem door_met (os : Os) (args : Array Value) : laidMetH Tryz.prog Rows.pagesJoinedRow.laid ((World.laidAll Tryz.prog os Rows.pagesJoinedRow.laid).forCall (fun _ _ => 0) ⟨#[], args, []⟩).memory := by
  rw [MakeChecks.laidMetH_plain _ _ _ (by kernel_rfl)]
  exact laidMet_laidAll _ (by kernel_rfl) (by kernel_rfl)
set_option linter.unusedVariables false in
set_option maxRecDepth 100000 in
theorem lifted (os : Os) (started : os.Started) (H : Type) (enc : TypeId × Value → H) :
    ReturnsInHanded {} Tryz.checked os 5 .any (fun w args => (Rows.pagesJoinedSpec.pre enc Tryz.prog Tryz.f5 [] false w args ∧ laidMetH Tryz.prog Rows.pagesJoinedRow.laid w) ∧ sizedMet enc Tryz.prog Tryz.f5 (OpenSpec.ofChange Rows.pagesJoinedSpec) false w args) (Rows.pagesJoinedSpec.post enc Tryz.prog Tryz.f5 false true false false) := by
  refine returnsInHanded_of_change_and (C := Tryz.checked) (X := fun w _ => laidMetH Tryz.prog Rows.pagesJoinedRow.laid w) (fun _ _ _ hh h => h.of_heap hh) own started (by kernel_rfl) Tryz.func5
    (ChangeSpec.witness_shaped (enc := enc) (C := Tryz.checked) (os := os) (X := fun w _ => laidMetH Tryz.prog Rows.pagesJoinedRow.laid w) false (World.laidAll Tryz.prog os Rows.pagesJoinedRow.laid) #[.slice none 0 0, .slice none 0 0, .int .u64 0, .int .u8 0] 8 (World.laidAll_os _ _ _) (World.shaped_of_ZipB (by kernel_rfl) (by kernel_rfl)) (by kernel_rfl) (by kernel_rfl) (by kernel_rfl) (door_met os _)) ?_
  intro W base args ds gs before hval0 hW _ _ hL _
  have hval : ∀ (j : Nat) t v, Tryz.f5.params[j]? = some t → args[j]? = some v → Value.okWide Tryz.prog W .any base t v := hval0
  have hW' := hW
  obtain ⟨p, q, hA0, hV, rfl, hfz, hnd⟩ := hW
  have hA : DataW.TrodAll enc Tryz.prog W 0 (fun _ => true) true Tryz.f5.params.toList args.toList ds p := hA0
  rw [Tryz.params5] at hA hval
  obtain ⟨v0, vs0, d0, ds0, p0, q0, hargs, rfl, rfl, h0, r0⟩ := trodAll_cons hA
  obtain ⟨v1, vs1, d1, ds1, p1, q1, rfl, rfl, rfl, h1, r1⟩ := trodAll_cons r0
  obtain ⟨v2, vs2, d2, ds2, p2, q2, rfl, rfl, rfl, h2, r2⟩ := trodAll_cons r1
  obtain ⟨v3, vs3, d3, ds3, p3, q3, rfl, rfl, rfl, h3, r3⟩ := trodAll_cons r2
  obtain ⟨rfl, rfl, rfl⟩ := trodAll_nil r3
  obtain rfl : args = #[v0, v1, v2, v3] := by cases args; simp_all
  obtain ⟨rfl, rfl⟩ := trodVars_none hV
  obtain ⟨a0, len0, cap0, rfl⟩ := okWide_slice Tryz.underlying50 (hval 0 50 v0 rfl rfl)
  have k0 := h0
  have lt0 : ∀ x ∈ p0, x.block < W.heap.size := by obtain ⟨m, hm⟩ := k0; exact DataW.trod_lt m _ _ _ hm
  obtain ⟨z0, w0⟩ : ∃ zs, IsStrs W a0 len0 cap0 zs := by
    obtain ⟨fuel, hf⟩ := h0
    rcases open_strings Tryz.underlying50 Tryz.underlying9 (by kernel_rfl) hf with ⟨hcs, _⟩ | ⟨x, l, c, zs, hcs, _, hl, hm, hz, _, hcell, hwz⟩
    · simp [Value.cells] at hcs
      obtain ⟨rfl, rfl, rfl⟩ := hcs
      exact ⟨[], .inl ⟨rfl, rfl, rfl, rfl⟩⟩
    · simp [Value.cells] at hcs
      obtain ⟨rfl, rfl, rfl⟩ := hcs
      exact ⟨zs, .inr ⟨_, rfl, hl, hm, by simpa using hz, hcell, hwz⟩⟩
  obtain ⟨a1, len1, cap1, rfl⟩ := okWide_slice Tryz.underlying65 (hval 1 65 v1 rfl rfl)
  have k1 := h1
  have lt1 : ∀ x ∈ p1, x.block < W.heap.size := by obtain ⟨m, hm⟩ := k1; exact DataW.trod_lt m _ _ _ hm
  obtain ⟨z1, w1⟩ : ∃ zs, IsRow .u64 W a1 len1 cap1 zs := by
    obtain ⟨fuel, hf⟩ := h1
    rcases open_ints Tryz.underlying65 Tryz.underlying22 (by kernel_rfl) hf with ⟨hcs, _⟩ | ⟨x, l, c, zs, hcs, _, hl, hm, hz, _, hcell, hwz⟩
    · simp [Value.cells] at hcs
      obtain ⟨rfl, rfl, rfl⟩ := hcs
      exact ⟨[], .inl ⟨rfl, rfl, rfl, rfl⟩⟩
    · simp [Value.cells] at hcs
      obtain ⟨rfl, rfl, rfl⟩ := hcs
      exact ⟨zs, .inr ⟨_, rfl, hl, hm, by simpa using hz, hcell, hwz⟩⟩
  obtain ⟨a2, rfl, rfl, rfl, w2⟩ := open_int Tryz.underlying22 (hval 2 22 v2 rfl rfl) h2
  obtain ⟨a3, rfl, rfl, rfl, w3⟩ := open_int Tryz.underlying5 (hval 3 5 v3 rfl rfl) h3
  clear hA0 hval0
  simp only [List.append_nil] at hW'
  refine (walk W a0 len0 cap0 z0 w0 a1 len1 cap1 z1 w1 a2 w2 a3 w3 (of_laid hL)).mono fun e W' ⟨he, hg⟩ => ?_
  subst he
  exact ⟨_, rfl, _, _, _, [], _, [], hW', trodAll_mk1 (shut_bool Tryz.underlying4 _), (trodAll_cons_mk (Below.trod laidOut (by kernel_rfl) (of_decide_eq_true (by kernel_rfl)) k0 hg lt0) (trodAll_cons_mk (Below.trod laidOut (by kernel_rfl) (of_decide_eq_true (by kernel_rfl)) k1 hg lt1) (trodAll_cons_mk (shut_int Tryz.underlying22 w2) (trodAll_cons_mk (shut_int Tryz.underlying5 w3) trodAll_mk0)))), rfl, hg.frame _, fun h => by cases h⟩
/-- The row: for every input, where the listed tables read as their initialisers lay them, the law returns true, and each argument reads as it did. -/
theorem row_proved : Rows.PagesJoinedSaid :=
  OpenClaim.holds_of_wide 5 Tryz.f5 rfl rfl rfl rfl rfl rfl rfl ⟨rfl, rfl, rfl, rfl, rfl⟩ rfl rfl rfl rfl rfl (by kernel_rfl) Tryz.func5 (by kernel_rfl)
    (of_decide_eq_true (by kernel_rfl)) (by unfold Func.isWrapper; first | (rw [if_pos (by decide +kernel)]; kernel_rfl) | (rw [if_neg (by decide +kernel)]; exact ⟨rfl, rfl⟩))
    (fun os started H enc _ => lifted os started H enc)
/-- For every input the law returns true, and each argument reads as it did; what the listed tables hold is tied to the program's text. -/
theorem proved : Rows.PagesJoinedCardSaid :=
  Claim7.holds_tied_plain_at .later [] [.data, .pinned] true (true, "517d6080fa90421d27ef2ef93c386dcf76469a6045d9f472575822940872c396") false
    row_proved (fun _ h => by cases h) (by kernel_rfl) (fun _ h => by cases h) pagesJoined_row_tie rfl ⟨rfl, rfl⟩ (by kernel_rfl) rfl
    (fun f fn hf hfn => by
      obtain rfl : f = 5 := Option.some.inj ((show Tryz.prog.funcNamed "revetment/revetmentlaw11.PagesJoined" = some 5 by kernel_rfl).symm.trans hf) |>.symm
      obtain rfl : fn = Tryz.f5 := (Option.some.inj (Tryz.func5.symm.trans hfn)).symm
      exact ⟨by kernel_rfl, fun j t ht => by
        rw [Tryz.params5] at ht
        have hm : t ∈ [50, 65, 22, 5] := by simpa using Array.mem_of_getElem? ht
        have hall : ([50, 65, 22, 5].all fun u => !Tryz.prog.wantsStandIn u) = true := by kernel_rfl
        exact (show Tryz.prog.wantsStandIn t = false by simpa using List.all_eq_true.1 hall t hm)⟩)
    (by kernel_rfl)
end Go.Proofs.YtlcoibfpebggoaaGreatDoor.pagesJoined
