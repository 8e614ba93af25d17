/- For every list of calls the law PagesActs returns true: whatever is saved, on whichever drives, and lost, what each of them holds, and what is joined, is the document's. Conditions: the library's tables unicode/utf8.acceptRanges and unicode/utf8.first, which the call never reads, hold what they are laid with (tied to the program's text by the card). -/
import Derived.Test.YtlcoibfpebggoaaGreatDoorPgSt
import Derived.Test.YtlcoibfpebggoaaGreatDoorKitAct11
import Derived.Test.YtlcoibfpebggoaaGreatDoorPgSays
import Derived.Test.YtlcoibfpebggoaaGreatDoorShown11
import Derived.Test.YtlcoibfpebggoaaGreatDoorPgDid
import Derived.Test.YtlcoibfpebggoaaGreatDoorCards
import Derived.Test.YtlcoibfpebggoaaGreatDoorTie
import Derived.ProofKit
import Derived.OpenShut
import Derived.ShutString
import Derived.Lay
import Derived.LaidOnce
import Derived.Stop.Joined
import Derived.SevenTiedAt
import Derived.Test.YtlcoibfpebggoaaGreatDoorKitDet
import Derived.BigQuiet
import Derived.Deep.AppendLies
import Derived.Deep.CutBlock
import Derived.Deep.CutRange
namespace Go.Proofs.YtlcoibfpebggoaaGreatDoor.pagesActs
open Go.ChangeShapes Go.WideShapes Go.ChangeAt Go.RowKit
open Go.ChangeMaps (open_string shut_string)


set_option maxRecDepth 100000 in
set_option maxHeartbeats 400000 in
theorem walk_long (S : Shown) (w : World) (a : Option Addr) (cap n : Nat) (hn : n ≤ maxLen) (h : 60 < n) (ev : Nat) (_hev : ev < 18446744073709551616) :
    Calls Tryz.prog 4 #[.slice a n cap, .int .u64 (ev : Int)] w fun e w' => e = .returned (.bool true) ∧ Below w.heap.size w w' := by
  unfold maxLen at hn
  have h1 : (60 : Int) < (n : Int) := by omega
  clear h
  go_enter Tryz.func4, Tryz.ntmps4
  go_wp2_with fail
  refine (S _).mono ?_
  rintro e w1 ⟨rfl, b1⟩
  go_wp2
  go_ret
  exact ⟨rfl, b1⟩

/-- the drives so far, k of the program's, l of the document's, in rows that grow -/
def tb0 (vd vr : Value) (pp rp : Nat → Nat) (k l : Nat) : Nat → Thing := fun x =>
  if x = 0 then rowT 39 vd (lst k pp) else if x = 1 then rowT 41 vr (lst l rp) else
  if x < 6 then (if x - 2 < k then drvT (pp (x - 2)) (Dr.fresh 3) else Thing.none) else if x - 6 < l then refT (rp (x - 6)) (Dr.fresh 3) else Thing.none
theorem tb0_pd {vd vr v : Value} {pp rp : Nat → Nat} {k l p : Nat} (hk : k < 4) : swap1 (swap1 (tb0 vd vr pp rp k l) (2 + k) (drvT p (Dr.fresh 3))) 0 (rowT 39 v (lst k pp ++ [.pointer (some ⟨p, 0, none⟩)])) = tb0 v vr (swap1 pp k p) rp (k + 1) l := by
  funext x
  by_cases h0 : x = 0
  · subst h0; rw [swap1_same, ← lst_grow]; rfl
  rw [swap1_other _ _ h0]
  by_cases hx : x = 2 + k
  · subst hx
    rw [swap1_same]
    unfold tb0
    rw [if_neg h0, if_neg (by omega), if_pos (by omega), if_pos (by omega), show 2 + k - 2 = k by omega, swap1_same]
  · rw [swap1_other _ _ hx]
    unfold tb0
    rw [if_neg h0, if_neg h0]
    by_cases h1 : x = 1
    · rw [if_pos h1, if_pos h1]
    rw [if_neg h1, if_neg h1]
    by_cases h6 : x < 6
    · rw [if_pos h6, if_pos h6, swap1_other _ _ (by omega)]
      by_cases hk' : x - 2 < k
      · rw [if_pos hk', if_pos (by omega)]
      · rw [if_neg hk', if_neg (by omega)]
    · rw [if_neg h6, if_neg h6]
theorem tb0_pr {vd vr v : Value} {pp rp : Nat → Nat} {k l p : Nat} (hl : l < 4) : swap1 (swap1 (tb0 vd vr pp rp k l) (6 + l) (refT p (Dr.fresh 3))) 1 (rowT 41 v (lst l rp ++ [.pointer (some ⟨p, 0, none⟩)])) = tb0 vd v pp (swap1 rp l p) k (l + 1) := by
  funext x
  by_cases h1 : x = 1
  · subst h1; rw [swap1_same, ← lst_grow]; rfl
  rw [swap1_other _ _ h1]
  by_cases hx : x = 6 + l
  · subst hx
    rw [swap1_same]
    unfold tb0
    rw [if_neg (by omega), if_neg (by omega), if_neg (by omega), if_pos (by omega), show 6 + l - 6 = l by omega, swap1_same]
  · rw [swap1_other _ _ hx]
    unfold tb0
    by_cases h0 : x = 0
    · rw [if_pos h0, if_pos h0]
    rw [if_neg h0, if_neg h0, if_neg h1, if_neg h1]
    by_cases h6 : x < 6
    · rw [if_pos h6, if_pos h6]
    · rw [if_neg h6, if_neg h6]
      by_cases hl' : x - 6 < l
      · rw [if_pos hl', if_pos (by omega), swap1_other _ _ (by omega)]
      · rw [if_neg hl', if_neg (by omega)]
/-- a row among many grows by one -/
theorem many_grow {w w1 w' : World} {B m : Nat} {T : Nat → Thing} (h : Many w B m T) {i : Nat} (hi : i < m) {t : TypeId} {v u : Value} {l l' : List Value} {g cap n : Nat} (e : T i = rowT t v l) (hn : n = l.length + 1) (hl' : l' = l ++ [u]) (hb : Below w.heap.size w w1)
    (ho : w'.ownsRow 0 t 1 (.slice (some ⟨g, 0, none⟩) n cap) n l') (hg : w1.grownBy w' v.ownBlock) (hl : v.ownBlock = some g ∨ g = w1.heap.size) :
    Many w' B m (swap1 T i (rowT t (.slice (some ⟨g, 0, none⟩) n cap) l')) ∧ Below B w w' := by
  subst hn hl'
  have hB := h.size
  obtain ⟨F, h1, h2, h3, h4⟩ := h
  have hF := h1 i hi
  rw [e] at hF
  obtain ⟨a, o⟩ := rowT_grown hF hb ho hg (by rcases hl with hl | hl; exact .inl hl.symm; exact .inr (by rw [hl]; rfl))
  obtain ⟨hm, hO⟩ := Many.turned hi h1 h2 h3 h4 a o
  exact ⟨hm, old_low hO hB⟩
theorem many_own {w : World} {B m : Nat} {T : Nat → Thing} (h : Many w B m T) {i : Nat} (hi : i < m) {t : TypeId} {v : Value} {l : List Value} {n : Nat} (e : T i = rowT t v l) (hn : n = l.length) : w.ownsRow 0 t 1 v n l := by
  obtain ⟨F, hF, _⟩ := h.look hi
  rw [e] at hF
  rw [hn]
  exact hF.1
theorem refNew_at (w : World) : Calls Tryz.prog 13 #[.int .i64 3] w fun e w' => ∃ rp, e = .returned (.pointer (some ⟨rp, 0, none⟩)) ∧ RefAt w' rp (Dr.fresh 3) (fun k => w.heap.size ≤ k) ∧ Below w.heap.size w w' := by
  refine (refNew3 w).mono ?_
  rintro e w' ⟨rp, vS, vW, vP, he, hr, hb⟩
  have hst : RefSt w' rp vS vW vP (fun _ => nilS) (Dr.fresh 3) := by
    refine ⟨?_, Dr.Ok.fresh (by decide) (by decide), fun i => World.ownsRow_nil _ _ _ _, fun i k hk => by simp [nilS, Value.ownBlock] at hk, fun _ _ => rfl⟩
    exact ⟨hr.self, Nat.zero_le _, hr.safes.mono (Nat.zero_le _), hr.writes.mono (Nat.zero_le _), hr.spoilt.mono (Nat.zero_le _)⟩
  have hlow : ∀ k, RFeet rp vS vW vP (fun _ => nilS) k → w.heap.size ≤ k := fun k hk => by
    rcases hk with hk | ⟨i, hi⟩
    · exact (hr.lt k hk).1
    · simp [nilS, Value.ownBlock] at hi
  exact ⟨rp, he, ⟨vS, vW, vP, _, hst, fun k hk => hlow k hk⟩, hb⟩
theorem head_of {w : World} {B m : Nat} {T : Nat → Thing} (h : Many w B m T) {i : Nat} (hi : i < m) {t : TypeId} {v : Value} {l : List Value} {n : Nat} (e : T i = rowT t v l) (hn : l.length = n) : ∃ a cap, v = .slice a n cap := by
  obtain ⟨F, hF, _⟩ := h.look hi
  rw [e] at hF
  obtain ⟨a, cap, h⟩ := rowT_head hF
  exact ⟨a, cap, by rw [h, hn]⟩
theorem row_new {w : World} {B k g c : Nat} {vr : Value} {pp rp : Nat → Nat} {p l : Nat} (h : Many w B 10 (tb0 (.slice (some ⟨g, 0, none⟩) (k + 1) c) vr (swap1 pp k p) rp (k + 1) l)) : w.cell? ⟨g, k, none⟩ = some (.pointer (some ⟨p, 0, none⟩)) := by
  have := many_row h (ri := 0) (by decide) (t := 39) (g := g) (N := k + 1) (cap := c) (L := lst (k + 1) (swap1 pp k p)) (j := k) (u := .pointer (some ⟨p, 0, none⟩)) rfl (by rw [lst_at _ (Nat.lt_succ_self k), swap1_same])
  exact this
/-- what a call reads of its own, and of the rows -/
def Reads (A g5 g6 m : Nat) (κ : Int) (_i v : Nat) (s : ByteArray) (pd rd : Nat) (W : World) : Prop :=
  W.cell? ⟨A, 0, none⟩ = some (.int .i64 κ) ∧ W.cell? ⟨A, 2, none⟩ = some (.int .u64 (v : Int)) ∧ W.cell? ⟨A, 3, none⟩ = some (.string s) ∧ W.cell? ⟨g5, m, none⟩ = some (.pointer (some ⟨pd, 0, none⟩)) ∧ W.cell? ⟨g6, m, none⟩ = some (.pointer (some ⟨rd, 0, none⟩))
theorem reads_of {w : World} {B : Nat} {e : Eight} {X Y : Nat → Dr} {A : Nat} {κ : Int} {i v : Nat} {s : ByteArray} (h : St w B 11 e X Y A #[.int .i64 κ, .int .u8 (i : Int), .int .u64 (v : Int), .string s]) {g5 c6 g6 c8 : Nat} (hvd : e.vd = .slice (some ⟨g5, 0, none⟩) 5 c6) (hvr : e.vr = .slice (some ⟨g6, 0, none⟩) 5 c8) {m : Nat} (hm : m < 4) {pd rd : Nat} (hp : e.pp m = pd) (hr : e.rp m = rd) :
    Reads A g5 g6 m κ i v s pd rd w := ⟨h.atA 0, h.atA 2, h.atA 3, hp ▸ h.atD (by decide) hvd hm, hr ▸ h.atR (by decide) hvr hm⟩
theorem det_still {P : Program} {f : FuncId} {args : Array Value} {v : Value} {W : World} {S : World → Prop} (h : Calls P f args W fun e w' => e = .returned v ∧ w' = W) (hW : S W) :
    Calls P f args W fun e w' => e = .returned v ∧ S w' := h.mono fun _ _ ⟨e, hb⟩ => ⟨e, by rw [hb]; exact hW⟩
theorem cell_lt {w : World} {b o : Nat} {v : Value} (h : w.cell? ⟨b, o, none⟩ = some v) : b < w.heap.size := World.block_lt_of_cell? w _ h
/-- the drives are made -/
def Made (w : World) (B : Nat) (e : Eight) : Prop := St w B 10 e (fun _ => Dr.fresh 3) (fun _ => Dr.fresh 3) 0 #[]
theorem made_of {w : World} {B : Nat} {vd vr vd0 vr0 : Value} {pp rp : Nat → Nat} (h : Many w B 10 (swap1 (swap1 (tb0 vd0 vr0 pp rp 4 4) 0 (rowT 39 vd (lst5 pp))) 1 (rowT 41 vr (lst5 rp)))) : Made w B ⟨vd, vr, pp, rp⟩ := by
  refine h.congr fun x hx => ?_
  by_cases h1 : x = 1
  · subst h1; rfl
  rw [swap1_other _ _ h1]
  by_cases h0 : x = 0
  · subst h0; rfl
  rw [swap1_other _ _ h0]
  unfold tb0 tb
  rw [if_neg h0, if_neg h0, if_neg h1, if_neg h1]
  by_cases h6 : x < 6
  · rw [if_pos h6, if_pos h6, if_pos (by omega)]
  · rw [if_neg h6, if_neg h6, if_pos (by omega), if_pos hx]
theorem many_two (w : World) {B : Nat} (hB : B ≤ w.heap.size) : Many ((w.alloc (.cells #[] 39)).alloc (.cells #[] 41)) B 10 (tb0 (.slice (some ⟨w.heap.size, 0, none⟩) 0 0) (.slice (some ⟨w.heap.size + 1, 0, none⟩) 0 0) (fun _ => 0) (fun _ => 0) 0 0) := by
  have h0 := Many.empty w hB 10
  have r0 := World.ownsRow_lit (base := 0) (e := 39) (size := 1) w #[] 0 (Nat.zero_le _) (by decide) rfl
  have h1 := Many.fresh h0 (i := 0) (by decide) (T' := rowT 39 (.slice (some ⟨w.heap.size, 0, none⟩) 0 0) []) (G := fun k => w.heap.size ≤ k) ((Below.refl _ w).alloc (Nat.le_refl _) _) ⟨r0, fun g e => by cases e; exact Nat.le_refl _⟩ (fun _ h => h)
  have r1 := World.ownsRow_lit (base := 0) (e := 41) (size := 1) (w.alloc (.cells #[] 39)) #[] 0 (Nat.zero_le _) (by decide) rfl
  have h2 := Many.fresh h1 (i := 1) (by decide) (T' := rowT 41 (.slice (some ⟨w.heap.size + 1, 0, none⟩) 0 0) []) (G := fun k => (w.alloc (.cells #[] 39)).heap.size ≤ k) ((Below.refl _ _).alloc (Nat.le_refl _) _) ⟨by rw [World.size_alloc] at r1; exact r1, fun g e => by cases e; rw [World.size_alloc]; exact Nat.le_refl _⟩ (fun _ h => h)
  refine h2.congr fun x _ => ?_
  by_cases h1 : x = 1
  · subst h1; rfl
  rw [swap1_other _ _ h1]
  by_cases h0 : x = 0
  · subst h0; rfl
  rw [swap1_other _ _ h0]
  unfold tb0
  rw [if_neg h0, if_neg h1, if_neg (Nat.not_lt_zero _), if_neg (Nat.not_lt_zero _), ite_self]
set_option maxRecDepth 100000 in
set_option maxHeartbeats 2000000 in
theorem walk_nil (S : Shown) (w : World) (a : Option Addr) (cap : Nat) (ev : Nat) (_hev : ev < 18446744073709551616) :
    Calls Tryz.prog 4 #[.slice a 0 cap, .int .u64 (ev : Int)] w fun e w' => e = .returned (.bool true) ∧ Below w.heap.size w w' := by
  have hpi : (Tryz.prog.info? 39).map (fun i => (i.zero, i.size, i.bytes)) = some (some (.pointer none), 1, 8) := by kernel_rfl
  have hri : (Tryz.prog.info? 41).map (fun i => (i.zero, i.size, i.bytes)) = some (some (.pointer none), 1, 8) := by kernel_rfl
  obtain ⟨iP, hP0, hP1, hP2, hP3⟩ := info_parts hpi
  obtain ⟨iR, hR0, hR1, hR2, hR3⟩ := info_parts hri
  clear hpi hri
  go_enter Tryz.func4, Tryz.ntmps4
  go_wp2_with fail
  refine (S _).mono ?_
  rintro e w1 ⟨rfl, b1⟩
  have B1 : Hid (Below w.heap.size w w1) := b1
  clear b1
  go_wp2
  go_loopg [5, 6, 7] 4 (fun gg vd vr i wr => ∃ (k : Nat) (pp rp : Nat → Nat) (x y : Value), k ≤ 4 ∧ gg = 4 - k ∧ x = vd ∧ y = vr ∧ i = .int .i64 k ∧ Many wr w.heap.size 10 (tb0 x y pp rp k k) ∧ Below w.heap.size w wr)
  case atStart => exact ⟨0, fun _ => 0, fun _ => 0, _, _, Nat.zero_le _, rfl, rfl, rfl, rfl, many_two w1 B1.out.size, (B1.out.alloc B1.out.size _).alloc (by rw [World.size_alloc]; exact Nat.le_succ_of_le B1.out.size) _⟩
  case round =>
    obtain ⟨k, pp, rp, x, y, hk, rfl, rfl, rfl, rfl, hM, hb⟩ := hrel
    have HM : Hid (Many wr w.heap.size 10 (tb0 x y pp rp k k)) := hM
    have HB : Hid (Below w.heap.size w wr) := hb
    obtain ⟨a5, c5, rfl⟩ := head_of hM (i := 0) (by decide) rfl (lst_length k pp)
    obtain ⟨a6, c7, rfl⟩ := head_of hM (i := 1) (by decide) rfl (lst_length k rp)
    clear hM hb
    by_cases hlt : k < 4
    case pos =>
      have hki : (k : Int) < 4 := by omega
      have hkk : (k : Int) < (k : Int) + 1 := by omega
      go_wp2_with fail
      refine (new_yes 3 (by decide) (by decide) _).mono ?_
      rintro e w2 ⟨p, rfl, hd, b2⟩
      have M2 : Hid (Many w2 w.heap.size 10 (swap1 (tb0 (.slice a5 k c5) (.slice a6 k c7) pp rp k k) (2 + k) (drvT p (Dr.fresh 3)))) := Many.fresh HM.out (i := 2 + k) (by omega) b2 hd (fun _ h => h)
      have BB2 : Hid (Below w.heap.size w w2) := below2 HB.out b2
      have O2 : Hid (w2.ownsRow 0 39 1 (.slice a5 k c5) k (lst k pp)) := many_own M2.out (i := 0) (by decide) (by rw [swap1_other _ _ (by omega)]; rfl) (lst_length k pp).symm
      have t1 : True := trivial
      clear hd b2 HM
      go_wp2_with (first | (at_builtin; go_loud (have _t := t1; refine wpList_append_lies _ rfl _ _ 37 rfl 0 39 iP (.pointer none) 1 8 Tryz.underlying37 hP0 hP1 hP2 hP3 rfl (by decide) (.slice a5 k c5) k (lst k pp) rfl (O2.out.alloc _) ⟨_, 0, none⟩ 1 1 [.pointer (some ⟨p, 0, none⟩)] rfl rfl (cell_one_new _ _ _) (by simp [Value.oneCell']) (by decide) (by unfold maxLen; omega) (by omega) (Nat.zero_le _) _ rfl ?_; intro g5 c6 w3 own1 grow1 lies1 lt1; obtain ⟨m3, b3⟩ := many_grow M2.out (i := 0) (by decide) (l := lst k pp) (v := .slice a5 k c5) (by rw [swap1_other _ _ (by omega)]; rfl) (by rw [lst_length]) rfl ((Below.refl _ _).alloc (Nat.le_refl _) _) own1 grow1 lies1; rw [tb0_pd hlt] at m3; have M3 : Hid (Many w3 w.heap.size 10 (tb0 (.slice (some ⟨g5, 0, none⟩) (k + 1) c6) (.slice a6 k c7) (swap1 pp k p) rp (k + 1) k)) := m3; have BB3 : Hid (Below w.heap.size w w3) := BB2.out.trans b3; clear m3 b3; clear own1 grow1 lies1 lt1 t1)))
      refine (refNew_at _).mono ?_
      rintro e w4 ⟨q, rfl, hr, b4⟩
      have M4 : Hid (Many w4 w.heap.size 10 (swap1 (tb0 (.slice (some ⟨g5, 0, none⟩) (k + 1) c6) (.slice a6 k c7) (swap1 pp k p) rp (k + 1) k) (6 + k) (refT q (Dr.fresh 3)))) := Many.fresh M3.out (i := 6 + k) (by omega) b4 hr (fun _ h => h)
      have BB4 : Hid (Below w.heap.size w w4) := below2 BB3.out b4
      have O4 : Hid (w4.ownsRow 0 41 1 (.slice a6 k c7) k (lst k rp)) := many_own M4.out (i := 1) (by decide) (by rw [swap1_other _ _ (by omega)]; rfl) (lst_length k rp).symm
      have t2 : True := trivial
      clear hr b4 M2 M3 O2 BB2 BB3 HB
      go_wp2_with (first | (at_builtin; have _t := t2; refine wpList_append_lies _ rfl _ _ 38 rfl 0 41 iR (.pointer none) 1 8 Tryz.underlying38 hR0 hR1 hR2 hR3 rfl (by decide) (.slice a6 k c7) k (lst k rp) rfl (O4.out.alloc _) ⟨_, 0, none⟩ 1 1 [.pointer (some ⟨q, 0, none⟩)] rfl rfl (cell_one_new _ _ _) (by simp [Value.oneCell']) (by decide) (by unfold maxLen; omega) (by omega) (Nat.zero_le _) _ rfl ?_; intro g6 c8 w5 own1 grow1 lies1 lt1; obtain ⟨m5, b5⟩ := many_grow M4.out (i := 1) (by decide) (l := lst k rp) (v := .slice a6 k c7) (by rw [swap1_other _ _ (by omega)]; rfl) (by rw [lst_length]) rfl ((Below.refl _ _).alloc (Nat.le_refl _) _) own1 grow1 lies1; rw [tb0_pr hlt] at m5; have M5 : Hid (Many w5 w.heap.size 10 (tb0 (.slice (some ⟨g5, 0, none⟩) (k + 1) c6) (.slice (some ⟨g6, 0, none⟩) (k + 1) c8) (swap1 pp k p) (swap1 rp k q) (k + 1) (k + 1))) := m5; have BB5 : Hid (Below w.heap.size w w5) := BB4.out.trans b5; clear m5 b5; have hcell := row_new M5.out; clear own1 grow1 lies1 lt1 t2))
      go_roundg (4 - (k + 1))
      case measure => omega
      case rel => exact ⟨k + 1, _, _, _, _, by omega, rfl, rfl, rfl, by go_num, M5.out, BB5.out⟩
    case neg =>
      have hk4 : k = 4 := by omega
      subst hk4
      have O2 : Hid (wr.ownsRow 0 39 1 (.slice a5 4 c5) 4 (lst 4 pp)) := many_own HM.out (i := 0) (by decide) rfl (lst_length 4 pp).symm
      have t1 : True := trivial
      clear hlt hk B1
      go_wp2_with (first | (at_builtin; have _t := t1; refine wpList_append_lies _ rfl _ _ 37 rfl 0 39 iP (.pointer none) 1 8 Tryz.underlying37 hP0 hP1 hP2 hP3 rfl (by decide) (.slice a5 4 c5) 4 (lst 4 pp) rfl (O2.out.alloc _) ⟨_, 0, none⟩ 1 1 [.pointer none] rfl rfl (cell_one_new _ _ _) (by simp [Value.oneCell']) (by decide) (by unfold maxLen; omega) (by omega) (Nat.zero_le _) _ rfl ?_; intro g5 c6 w3 own1 grow1 lies1 lt1; obtain ⟨m3, b3⟩ := many_grow HM.out (i := 0) (by decide) (l := lst 4 pp) (l' := lst5 pp) (v := .slice a5 4 c5) rfl (by rw [lst_length]) rfl ((Below.refl _ _).alloc (Nat.le_refl _) _) own1 grow1 lies1; have M3 : Hid (Many w3 w.heap.size 10 (swap1 (tb0 (.slice a5 4 c5) (.slice a6 4 c7) pp rp 4 4) 0 (rowT 39 (.slice (some ⟨g5, 0, none⟩) 5 c6) (lst5 pp)))) := m3; have BB3 : Hid (Below w.heap.size w w3) := HB.out.trans b3; have O4 : Hid (w3.ownsRow 0 41 1 (.slice a6 4 c7) 4 (lst 4 rp)) := many_own m3 (i := 1) (by decide) (by rw [swap1_other _ _ (by decide)]; rfl) (lst_length 4 rp).symm; have t2 : True := trivial; clear m3 b3; clear own1 grow1 lies1 lt1 t1) | (at_builtin; have _t := t2; refine wpList_append_lies _ rfl _ _ 38 rfl 0 41 iR (.pointer none) 1 8 Tryz.underlying38 hR0 hR1 hR2 hR3 rfl (by decide) (.slice a6 4 c7) 4 (lst 4 rp) rfl (O4.out.alloc _) ⟨_, 0, none⟩ 1 1 [.pointer none] rfl rfl (cell_one_new _ _ _) (by simp [Value.oneCell']) (by decide) (by unfold maxLen; omega) (by omega) (Nat.zero_le _) _ rfl ?_; intro g6 c8 w5 own1 grow1 lies1 lt1; obtain ⟨m5, b5⟩ := many_grow M3.out (i := 1) (by decide) (l := lst 4 rp) (l' := lst5 rp) (v := .slice a6 4 c7) (by rw [swap1_other _ _ (by decide)]; rfl) (by rw [lst_length]) rfl ((Below.refl _ _).alloc (Nat.le_refl _) _) own1 grow1 lies1; obtain ⟨E, hE⟩ : ∃ E : Eight, E = ⟨.slice (some ⟨g5, 0, none⟩) 5 c6, .slice (some ⟨g6, 0, none⟩) 5 c8, pp, rp⟩ := ⟨_, rfl⟩; have M5 : Hid (Made w5 w.heap.size E) := (by rw [hE]; exact made_of m5); have HVD : Hid (E.vd = .slice (some ⟨g5, 0, none⟩) 5 c6) := (by rw [hE]; rfl); have HVR : Hid (E.vr = .slice (some ⟨g6, 0, none⟩) 5 c8) := (by rw [hE]; rfl); have BB5 : Hid (Below w.heap.size w w5) := BB3.out.trans b5; clear m5 b5 hE; clear own1 grow1 lies1 lt1 t2))
      go_loopg [8] 0 (fun gg i wr => gg = 0 ∧ i = .int .i64 0 ∧ wr = w5)
      case atStart => exact ⟨rfl, rfl, rfl⟩
      case round =>
        obtain ⟨rfl, rfl, rfl⟩ := hrel
        go_wp2
        go_ret
        exact ⟨rfl, BB5.out⟩
set_option maxRecDepth 100000 in
set_option maxHeartbeats 8000000 in
theorem walk_some (P : PgDoes) (S : Shown) (w : World) (b off cap n : Nat) (hn : n ≤ 60) (_hpos : 0 < n) (f : Nat → Act11) (hA : ∀ j, j < n → ActAt11 w b (off + j * 4) (f j)) (ev : Nat) (hev : ev < 18446744073709551616) :
    Calls Tryz.prog 4 #[.slice (some ⟨b, off, none⟩) n cap, .int .u64 (ev : Int)] w fun e w' => e = .returned (.bool true) ∧ Below w.heap.size w w' := by
  have HMX : Hid (Tryz.prog.follows .mixedOrders = true) := by show _ = _; kernel_rfl
  have hn1 : ¬ (60 : Int) < (n : Int) := by omega
  have HA : Hid (∀ j, j < n → ActAt11 w b (off + j * 4) (f j)) := hA
  have HBL : Hid (∀ W, Calls Tryz.prog 16 #[] W fun e w' => e = .returned (.string blankB) ∧ w' = W) := blank_any
  have HN : Hid (n ≤ 60) := hn
  have HEV : Hid (ev < 18446744073709551616) := hev
  clear hA hn _hpos hev
  have hpi : (Tryz.prog.info? 39).map (fun i => (i.zero, i.size, i.bytes)) = some (some (.pointer none), 1, 8) := by kernel_rfl
  have hri : (Tryz.prog.info? 41).map (fun i => (i.zero, i.size, i.bytes)) = some (some (.pointer none), 1, 8) := by kernel_rfl
  obtain ⟨iP, hP0, hP1, hP2, hP3⟩ := info_parts hpi
  obtain ⟨iR, hR0, hR1, hR2, hR3⟩ := info_parts hri
  clear hpi hri
  go_enter Tryz.func4, Tryz.ntmps4
  go_wp2_with fail
  refine (S _).mono ?_
  rintro e w1 ⟨rfl, b1⟩
  have B1 : Hid (Below w.heap.size w w1) := b1
  clear b1
  go_wp2
  go_loopg [5, 6, 7] 4 (fun gg vd vr i wr => ∃ (k : Nat) (pp rp : Nat → Nat) (x y : Value), k ≤ 4 ∧ gg = 4 - k ∧ x = vd ∧ y = vr ∧ i = .int .i64 k ∧ Many wr w.heap.size 10 (tb0 x y pp rp k k) ∧ Below w.heap.size w wr)
  case atStart => exact ⟨0, fun _ => 0, fun _ => 0, _, _, Nat.zero_le _, rfl, rfl, rfl, rfl, many_two w1 B1.out.size, (B1.out.alloc B1.out.size _).alloc (by rw [World.size_alloc]; exact Nat.le_succ_of_le B1.out.size) _⟩
  case round =>
    obtain ⟨k, pp, rp, x, y, hk, rfl, rfl, rfl, rfl, hM, hb⟩ := hrel
    have HM : Hid (Many wr w.heap.size 10 (tb0 x y pp rp k k)) := hM
    have HB : Hid (Below w.heap.size w wr) := hb
    obtain ⟨a5, c5, rfl⟩ := head_of hM (i := 0) (by decide) rfl (lst_length k pp)
    obtain ⟨a6, c7, rfl⟩ := head_of hM (i := 1) (by decide) rfl (lst_length k rp)
    clear hM hb
    by_cases hlt : k < 4
    case pos =>
      have hki : (k : Int) < 4 := by omega
      have hkk : (k : Int) < (k : Int) + 1 := by omega
      go_wp2_with fail
      refine (new_yes 3 (by decide) (by decide) _).mono ?_
      rintro e w2 ⟨p, rfl, hd, b2⟩
      have M2 : Hid (Many w2 w.heap.size 10 (swap1 (tb0 (.slice a5 k c5) (.slice a6 k c7) pp rp k k) (2 + k) (drvT p (Dr.fresh 3)))) := Many.fresh HM.out (i := 2 + k) (by omega) b2 hd (fun _ h => h)
      have BB2 : Hid (Below w.heap.size w w2) := below2 HB.out b2
      have O2 : Hid (w2.ownsRow 0 39 1 (.slice a5 k c5) k (lst k pp)) := many_own M2.out (i := 0) (by decide) (by rw [swap1_other _ _ (by omega)]; rfl) (lst_length k pp).symm
      have t1 : True := trivial
      clear hd b2 HM
      go_wp2_with (first | (at_builtin; go_loud (have _t := t1; refine wpList_append_lies _ rfl _ _ 37 rfl 0 39 iP (.pointer none) 1 8 Tryz.underlying37 hP0 hP1 hP2 hP3 rfl (by decide) (.slice a5 k c5) k (lst k pp) rfl (O2.out.alloc _) ⟨_, 0, none⟩ 1 1 [.pointer (some ⟨p, 0, none⟩)] rfl rfl (cell_one_new _ _ _) (by simp [Value.oneCell']) (by decide) (by unfold maxLen; omega) (by omega) (Nat.zero_le _) _ rfl ?_; intro g5 c6 w3 own1 grow1 lies1 lt1; obtain ⟨m3, b3⟩ := many_grow M2.out (i := 0) (by decide) (l := lst k pp) (v := .slice a5 k c5) (by rw [swap1_other _ _ (by omega)]; rfl) (by rw [lst_length]) rfl ((Below.refl _ _).alloc (Nat.le_refl _) _) own1 grow1 lies1; rw [tb0_pd hlt] at m3; have M3 : Hid (Many w3 w.heap.size 10 (tb0 (.slice (some ⟨g5, 0, none⟩) (k + 1) c6) (.slice a6 k c7) (swap1 pp k p) rp (k + 1) k)) := m3; have BB3 : Hid (Below w.heap.size w w3) := BB2.out.trans b3; clear m3 b3; clear own1 grow1 lies1 lt1 t1)))
      refine (refNew_at _).mono ?_
      rintro e w4 ⟨q, rfl, hr, b4⟩
      have M4 : Hid (Many w4 w.heap.size 10 (swap1 (tb0 (.slice (some ⟨g5, 0, none⟩) (k + 1) c6) (.slice a6 k c7) (swap1 pp k p) rp (k + 1) k) (6 + k) (refT q (Dr.fresh 3)))) := Many.fresh M3.out (i := 6 + k) (by omega) b4 hr (fun _ h => h)
      have BB4 : Hid (Below w.heap.size w w4) := below2 BB3.out b4
      have O4 : Hid (w4.ownsRow 0 41 1 (.slice a6 k c7) k (lst k rp)) := many_own M4.out (i := 1) (by decide) (by rw [swap1_other _ _ (by omega)]; rfl) (lst_length k rp).symm
      have t2 : True := trivial
      clear hr b4 M2 M3 O2 BB2 BB3 HB
      go_wp2_with (first | (at_builtin; have _t := t2; refine wpList_append_lies _ rfl _ _ 38 rfl 0 41 iR (.pointer none) 1 8 Tryz.underlying38 hR0 hR1 hR2 hR3 rfl (by decide) (.slice a6 k c7) k (lst k rp) rfl (O4.out.alloc _) ⟨_, 0, none⟩ 1 1 [.pointer (some ⟨q, 0, none⟩)] rfl rfl (cell_one_new _ _ _) (by simp [Value.oneCell']) (by decide) (by unfold maxLen; omega) (by omega) (Nat.zero_le _) _ rfl ?_; intro g6 c8 w5 own1 grow1 lies1 lt1; obtain ⟨m5, b5⟩ := many_grow M4.out (i := 1) (by decide) (l := lst k rp) (v := .slice a6 k c7) (by rw [swap1_other _ _ (by omega)]; rfl) (by rw [lst_length]) rfl ((Below.refl _ _).alloc (Nat.le_refl _) _) own1 grow1 lies1; rw [tb0_pr hlt] at m5; have M5 : Hid (Many w5 w.heap.size 10 (tb0 (.slice (some ⟨g5, 0, none⟩) (k + 1) c6) (.slice (some ⟨g6, 0, none⟩) (k + 1) c8) (swap1 pp k p) (swap1 rp k q) (k + 1) (k + 1))) := m5; have BB5 : Hid (Below w.heap.size w w5) := BB4.out.trans b5; clear m5 b5; have hcell := row_new M5.out; clear own1 grow1 lies1 lt1 t2))
      go_roundg (4 - (k + 1))
      case measure => omega
      case rel => exact ⟨k + 1, _, _, _, _, by omega, rfl, rfl, rfl, by go_num, M5.out, BB5.out⟩
    case neg =>
      have hk4 : k = 4 := by omega
      subst hk4
      have O2 : Hid (wr.ownsRow 0 39 1 (.slice a5 4 c5) 4 (lst 4 pp)) := many_own HM.out (i := 0) (by decide) rfl (lst_length 4 pp).symm
      have t1 : True := trivial
      clear hlt hk B1
      go_wp2_with (first | (at_builtin; have _t := t1; refine wpList_append_lies _ rfl _ _ 37 rfl 0 39 iP (.pointer none) 1 8 Tryz.underlying37 hP0 hP1 hP2 hP3 rfl (by decide) (.slice a5 4 c5) 4 (lst 4 pp) rfl (O2.out.alloc _) ⟨_, 0, none⟩ 1 1 [.pointer none] rfl rfl (cell_one_new _ _ _) (by simp [Value.oneCell']) (by decide) (by unfold maxLen; omega) (by omega) (Nat.zero_le _) _ rfl ?_; intro g5 c6 w3 own1 grow1 lies1 lt1; obtain ⟨m3, b3⟩ := many_grow HM.out (i := 0) (by decide) (l := lst 4 pp) (l' := lst5 pp) (v := .slice a5 4 c5) rfl (by rw [lst_length]) rfl ((Below.refl _ _).alloc (Nat.le_refl _) _) own1 grow1 lies1; have M3 : Hid (Many w3 w.heap.size 10 (swap1 (tb0 (.slice a5 4 c5) (.slice a6 4 c7) pp rp 4 4) 0 (rowT 39 (.slice (some ⟨g5, 0, none⟩) 5 c6) (lst5 pp)))) := m3; have BB3 : Hid (Below w.heap.size w w3) := HB.out.trans b3; have O4 : Hid (w3.ownsRow 0 41 1 (.slice a6 4 c7) 4 (lst 4 rp)) := many_own m3 (i := 1) (by decide) (by rw [swap1_other _ _ (by decide)]; rfl) (lst_length 4 rp).symm; have t2 : True := trivial; clear m3 b3; clear own1 grow1 lies1 lt1 t1) | (at_builtin; have _t := t2; refine wpList_append_lies _ rfl _ _ 38 rfl 0 41 iR (.pointer none) 1 8 Tryz.underlying38 hR0 hR1 hR2 hR3 rfl (by decide) (.slice a6 4 c7) 4 (lst 4 rp) rfl (O4.out.alloc _) ⟨_, 0, none⟩ 1 1 [.pointer none] rfl rfl (cell_one_new _ _ _) (by simp [Value.oneCell']) (by decide) (by unfold maxLen; omega) (by omega) (Nat.zero_le _) _ rfl ?_; intro g6 c8 w5 own1 grow1 lies1 lt1; obtain ⟨m5, b5⟩ := many_grow M3.out (i := 1) (by decide) (l := lst 4 rp) (l' := lst5 rp) (v := .slice a6 4 c7) (by rw [swap1_other _ _ (by decide)]; rfl) (by rw [lst_length]) rfl ((Below.refl _ _).alloc (Nat.le_refl _) _) own1 grow1 lies1; obtain ⟨E, hE⟩ : ∃ E : Eight, E = ⟨.slice (some ⟨g5, 0, none⟩) 5 c6, .slice (some ⟨g6, 0, none⟩) 5 c8, pp, rp⟩ := ⟨_, rfl⟩; have M5 : Hid (Made w5 w.heap.size E) := (by rw [hE]; exact made_of m5); have HVD : Hid (E.vd = .slice (some ⟨g5, 0, none⟩) 5 c6) := (by rw [hE]; rfl); have HVR : Hid (E.vr = .slice (some ⟨g6, 0, none⟩) 5 c8) := (by rw [hE]; rfl); have BB5 : Hid (Below w.heap.size w w5) := BB3.out.trans b5; clear m5 b5 hE; clear own1 grow1 lies1 lt1 t2))
      go_loopg [8] n (fun gg i wr => ∃ (k : Nat) (X : Nat → Dr), k ≤ n ∧ gg = n - k ∧ i = .int .i64 k ∧ St wr w.heap.size 10 E X X 0 #[] ∧ (∀ i, i < 4 → Inv11 (X i) (5 * k)) ∧ Below w.heap.size w wr)
      case atStart => exact ⟨0, _, Nat.zero_le _, rfl, rfl, M5.out, fun _ _ => Inv11.start, BB5.out⟩
      case round =>
        obtain ⟨k, X, hk, rfl, rfl, hT, hI, hb⟩ := hrel
        have HT : Hid (St wr w.heap.size 10 E X X 0 #[]) := hT
        have HI : Hid (∀ i, i < 4 → Inv11 (X i) (5 * k)) := hI
        have HB : Hid (Below w.heap.size w wr) := hb
        have hk60 : k ≤ 60 := Nat.le_trans hk HN.out
        clear hT hI hb M5 BB5
        by_cases hlt : k < n
        case neg =>
          have hkn : k = n := by omega
          subst hkn
          go_wp2
          go_ret
          exact ⟨rfl, HB.out⟩
        case pos =>
          have hak := HA.out k hlt
          have hki : (k : Int) < (n : Int) := by omega
          generalize f k = x at hak
          obtain ⟨κ, i, v, s⟩ := x
          have c0 : wr.cell? ⟨b, off + k * 4, none⟩ = some (.int .i64 κ) := (HB.out.cell (p := ⟨b, off + k * 4, none⟩) (World.block_lt_of_cell? w _ hak.c0)).trans hak.c0
          have c1 : wr.cell? ⟨b, off + k * 4 + 1, none⟩ = some (.int .u8 (i : Int)) := (HB.out.cell (p := ⟨b, off + k * 4 + 1, none⟩) (World.block_lt_of_cell? w _ hak.c1)).trans hak.c1
          have c2 : wr.cell? ⟨b, off + k * 4 + 2, none⟩ = some (.int .u64 (v : Int)) := (HB.out.cell (p := ⟨b, off + k * 4 + 2, none⟩) (World.block_lt_of_cell? w _ hak.c2)).trans hak.c2
          have c3 : wr.cell? ⟨b, off + k * 4 + 3, none⟩ = some (.string s) := (HB.out.cell (p := ⟨b, off + k * 4 + 3, none⟩) (World.block_lt_of_cell? w _ hak.c3)).trans hak.c3
          have hiv : Hid (i < 256 ∧ v < 18446744073709551616 ∧ s.size ≤ maxLen) := ⟨hak.i, hak.ev, hak.s⟩
          have hsz := hak.s
          unfold maxLen at hsz
          clear hak
          go_upto_region 18 with fail
          obtain ⟨V, hV⟩ : ∃ V, V = wr.alloc (.cells #[.int .i64 κ, .int .u8 (i : Int), .int .u64 (v : Int), .string s] 44) := ⟨_, rfl⟩
          have av := HT.out.act #[.int .i64 κ, .int .u8 (i : Int), .int .u64 (v : Int), .string s]
          have bv : Below wr.heap.size wr V := by rw [hV]; exact (Below.refl _ wr).alloc (Nat.le_refl _) _
          rw [← hV] at av ⊢
          have AV : Hid (St V w.heap.size 11 E X X wr.heap.size #[.int .i64 κ, .int .u8 (i : Int), .int .u64 (v : Int), .string s]) := av
          have BV : Hid (Below w.heap.size w V) := below2 HB.out bv
          have d0 : V.cell? ⟨wr.heap.size, 0, none⟩ = some (.int .i64 κ) := av.atA 0
          have d1 : V.cell? ⟨wr.heap.size, 1, none⟩ = some (.int .u8 (i : Int)) := av.atA 1
          have d2 : V.cell? ⟨wr.heap.size, 2, none⟩ = some (.int .u64 (v : Int)) := av.atA 2
          have d3 : V.cell? ⟨wr.heap.size, 3, none⟩ = some (.string s) := av.atA 3
          obtain ⟨A, hA⟩ : ∃ A, A = wr.heap.size := ⟨_, rfl⟩
          rw [← hA] at AV d0 d1 d2 d3 ⊢
          clear av bv hV hA c0 c1 c2 c3 HT
          by_cases h100 : (100 : Int) < (s.size : Int)
          · go_wp2_with fail
            refine (S _).mono ?_
            rintro e w9 ⟨rfl, b9⟩
            have B9 : Hid (Below w.heap.size w w9) := below2 BV.out b9
            clear b9
            go_wp2
            go_ret
            exact ⟨rfl, B9.out⟩
          obtain ⟨m, hm⟩ : ∃ m, m = i % 4 := ⟨_, rfl⟩
          have hm4 : m < 4 := by omega
          have hmi : (i : Int) % 4 = (m : Int) := by omega
          have hmt : (i : Int).tmod 4 = (m : Int) := by rw [Int.tmod_eq_emod_of_nonneg (Int.natCast_nonneg i)]; exact hmi
          have hm5 : (m : Int) < 5 := by omega
          clear hm
          have hi8 := hiv.out.1
          go_upto_block 4 with fail
          try rw [hmt]
          obtain ⟨pd, hpd⟩ : ∃ pd, E.pp m = pd := ⟨_, rfl⟩
          obtain ⟨rd, hrd⟩ : ∃ rd, E.rp m = rd := ⟨_, rfl⟩
          have HP : Hid (E.pp m = pd) := hpd
          have HR : Hid (E.rp m = rd) := hrd
          have HI4 : Hid (m < 4) := hm4
          have hgoes : Hid (∀ i, i < 4 → (X i).goes = false) := fun i hi => (HI.out i hi).goes
          clear hpd hrd hmi hmt d1 d2 d3 hi8
          go_cut [11, 12, 13, 14, 15, 16] from 58 to 252 (fun s11 s12 s13 s14 s15 s16 wc => ∃ Z : Nat → Dr, s11 = .bool true ∧ St wc w.heap.size 11 E Z Z A #[.int .i64 κ, .int .u8 (i : Int), .int .u64 (v : Int), .string s] ∧ (∀ i, i < 4 → Inv11 (Z i) (5 * (k + 1))) ∧ Below w.heap.size w wc)
          case first =>
            by_cases hκ0 : κ = 0
            · subst hκ0
              as_aux_lemma =>
                obtain ⟨W1, hW1⟩ : ∃ W, W = V := ⟨_, rfl⟩
                rw [← hW1] at AV BV d0 ⊢
                have AW : Hid (St W1 w.heap.size 11 E X X A #[.int .i64 0, .int .u8 (i : Int), .int .u64 (v : Int), .string s]) := AV.out
                clear hW1
                have HVV : Hid (v < 18446744073709551616) := hiv.out.2.1
                obtain ⟨Z, hZ⟩ : ∃ Z, Z = swap1 X m ((X m).pgSaveD ⟨v, s⟩) := ⟨_, rfl⟩
                have HZ : Hid (Z = swap1 X m ((X m).pgSaveD ⟨v, s⟩)) := hZ
                have IZ : Hid (∀ i, i < 4 → Inv11 (Z i) (5 * (k + 1))) := by rw [hZ]; exact inv_put HI.out HI4.out ((HI.out m HI4.out).save _)
                have AD : Hid (St W1.drew w.heap.size 11 E X X A #[.int .i64 0, .int .u8 (i : Int), .int .u64 (v : Int), .string s]) := AW.out.below (Below.refl _ _).drew
                have B1 : Hid (Below w.heap.size w W1) := BV.out
                obtain ⟨r, hr⟩ : ∃ r, r = (X m).pgSaveE ⟨v, s⟩ := ⟨_, rfl⟩
                have hsv : Calls Tryz.prog 14 #[.pointer (some ⟨pd, 0, none⟩), .agg #[.int .u64 (v : Int), .string s]] W1.drew fun e w' => e = .returned (.int .i64 (r : Nat)) ∧ St w' w.heap.size 11 E Z X A #[.int .i64 0, .int .u8 (i : Int), .int .u64 (v : Int), .string s] ∧ Only (Old w.heap.size W1.drew) W1.drew w' := by rw [← HP.out, hr, hZ]; exact AD.out.save P HI4.out ((HI.out m HI4.out).fit (by omega)) ⟨v, s⟩ HVV.out
                have HSV2 : Hid (∀ W, St W w.heap.size 11 E Z X A #[.int .i64 0, .int .u8 (i : Int), .int .u64 (v : Int), .string s] → Calls Tryz.prog 15 #[.pointer (some ⟨rd, 0, none⟩), .agg #[.int .u64 (v : Int), .string s]] W fun e w' => e = .returned (.int .i64 (r : Nat)) ∧ St w' w.heap.size 11 E Z Z A #[.int .i64 0, .int .u8 (i : Int), .int .u64 (v : Int), .string s] ∧ Only (Old w.heap.size W) W w') := fun W h => by rw [← HR.out, hr]; rw [hZ] at h ⊢; exact h.rsave HI4.out ((HI.out m HI4.out).fit (by omega)) ⟨v, s⟩ HVV.out
                clear hr hZ
                clear AV BV AW
                go_wp2_with fail
                refine wp_region_held (S := fun W => W.cell? ⟨A, 0, none⟩ = some (.int .i64 0) ∧ W.cell? ⟨A, 2, none⟩ = some (.int .u64 (v : Int)) ∧ W.cell? ⟨A, 3, none⟩ = some (.string s) ∧ W.cell? ⟨g5, m, none⟩ = some (.pointer (some ⟨pd, 0, none⟩)) ∧ W.cell? ⟨g6, m, none⟩ = some (.pointer (some ⟨rd, 0, none⟩))) HMX.out ?_
                have hS : (fun W : World => W.cell? ⟨A, 0, none⟩ = some (.int .i64 0) ∧ W.cell? ⟨A, 2, none⟩ = some (.int .u64 (v : Int)) ∧ W.cell? ⟨A, 3, none⟩ = some (.string s) ∧ W.cell? ⟨g5, m, none⟩ = some (.pointer (some ⟨pd, 0, none⟩)) ∧ W.cell? ⟨g6, m, none⟩ = some (.pointer (some ⟨rd, 0, none⟩))) W1.drew := reads_of AD.out HVD.out HVR.out HI4.out HP.out HR.out
                change wpAnyH _ _ _ _ _ _ _ _ W1.drew
                refine held_quiet 0 (v := ?v0q1) rfl (by kernel_rfl) (fun _ _ _ h => h) (by assumption) rfl ?hy0q1 ?rest0q1
                case hy0q1 => (intro wS hSw; (try dsimp only at hSw); go_simp; try with_reducible rfl)
                try simp only [Act.put, List.setIfInBounds_toArray, List.set_cons_zero, List.set_cons_succ]
                refine held_quiet 1 (v := ?v1q2) rfl (by kernel_rfl) (fun _ _ _ h => h) (by assumption) rfl ?hy1q2 ?rest1q2
                case hy1q2 => (intro wS hSw; (try dsimp only at hSw); go_simp; try with_reducible rfl)
                try simp only [Act.put, List.setIfInBounds_toArray, List.set_cons_zero, List.set_cons_succ]
                refine held_quiet 2 (v := ?v2q3) rfl (by kernel_rfl) (fun _ _ _ h => h) (by assumption) rfl ?hy2q3 ?rest2q3
                case hy2q3 => (intro wS hSw; (try dsimp only at hSw); go_simp; try with_reducible rfl)
                try simp only [Act.put, List.setIfInBounds_toArray, List.set_cons_zero, List.set_cons_succ]
                refine held_quiet 3 (v := ?v3q4) rfl (by kernel_rfl) (fun _ _ _ h => h) (by assumption) rfl ?hy3q4 ?rest3q4
                case hy3q4 => (intro wS hSw; (try dsimp only at hSw); go_simp; try with_reducible rfl)
                try simp only [Act.put, List.setIfInBounds_toArray, List.set_cons_zero, List.set_cons_succ]
                refine held_quiet 4 (v := ?v4q5) rfl (by kernel_rfl) (fun _ _ _ h => h) (by assumption) rfl ?hy4q5 ?rest4q5
                case hy4q5 => (intro wS hSw; (try dsimp only at hSw); go_simp; try with_reducible rfl)
                try simp only [Act.put, List.setIfInBounds_toArray, List.set_cons_zero, List.set_cons_succ]
                refine held_quiet 5 (v := ?v5q6) rfl (by kernel_rfl) (fun _ _ _ h => h) (by assumption) rfl ?hy5q6 ?rest5q6
                case hy5q6 => (intro wS hSw; (try dsimp only at hSw); go_simp; try with_reducible rfl)
                try simp only [Act.put, List.setIfInBounds_toArray, List.set_cons_zero, List.set_cons_succ]
                refine held_quiet 6 (v := ?v6q7) rfl (by kernel_rfl) (fun _ _ _ h => h) (by assumption) rfl ?hy6q7 ?rest6q7
                case hy6q7 => (intro wS hSw; (try dsimp only at hSw); go_simp; try with_reducible rfl)
                try simp only [Act.put, List.setIfInBounds_toArray, List.set_cons_zero, List.set_cons_succ]
                refine held_quiet 7 (v := ?v7q8) rfl (by kernel_rfl) (fun _ _ _ h => h) (by assumption) rfl ?hy7q8 ?rest7q8
                case hy7q8 => (intro wS hSw; (try dsimp only at hSw); go_simp; try with_reducible rfl)
                try simp only [Act.put, List.setIfInBounds_toArray, List.set_cons_zero, List.set_cons_succ]
                refine held_quiet 8 (v := ?v8q9) rfl (by kernel_rfl) (fun _ _ _ h => h) (by assumption) rfl ?hy8q9 ?rest8q9
                case hy8q9 => (intro wS hSw; (try dsimp only at hSw); go_simp; try with_reducible rfl)
                try simp only [Act.put, List.setIfInBounds_toArray, List.set_cons_zero, List.set_cons_succ]
                refine held_quiet 10 (v := ?v10q10) rfl (by kernel_rfl) (fun _ _ _ h => h) (by assumption) rfl ?hy10q10 ?rest10q10
                case hy10q10 => (intro wS hSw; (try dsimp only at hSw); go_simp; try with_reducible rfl)
                try simp only [Act.put, List.setIfInBounds_toArray, List.set_cons_zero, List.set_cons_succ]
                refine held_quiet 11 (v := ?v11q11) rfl (by kernel_rfl) (fun _ _ _ h => h) (by assumption) rfl ?hy11q11 ?rest11q11
                case hy11q11 => (intro wS hSw; (try dsimp only at hSw); go_simp; try with_reducible rfl)
                try simp only [Act.put, List.setIfInBounds_toArray, List.set_cons_zero, List.set_cons_succ]
                refine held_quiet 12 (v := ?v12q12) rfl (by kernel_rfl) (fun _ _ _ h => h) (by assumption) rfl ?hy12q12 ?rest12q12
                case hy12q12 => (intro wS hSw; (try dsimp only at hSw); go_simp; try with_reducible rfl)
                try simp only [Act.put, List.setIfInBounds_toArray, List.set_cons_zero, List.set_cons_succ]
                refine held_quiet 13 (v := ?v13q13) rfl (by kernel_rfl) (fun _ _ _ h => h) (by assumption) rfl ?hy13q13 ?rest13q13
                case hy13q13 => (intro wS hSw; (try dsimp only at hSw); go_simp; try with_reducible rfl)
                try simp only [Act.put, List.setIfInBounds_toArray, List.set_cons_zero, List.set_cons_succ]
                refine held_quiet 14 (v := ?v14q14) rfl (by kernel_rfl) (fun _ _ _ h => h) (by assumption) rfl ?hy14q14 ?rest14q14
                case hy14q14 => (intro wS hSw; (try dsimp only at hSw); go_simp; try with_reducible rfl)
                try simp only [Act.put, List.setIfInBounds_toArray, List.set_cons_zero, List.set_cons_succ]
                refine held_quiet 15 (v := ?v15q15) rfl (by kernel_rfl) (fun _ _ _ h => h) (by assumption) rfl ?hy15q15 ?rest15q15
                case hy15q15 => (intro wS hSw; (try dsimp only at hSw); go_simp; try with_reducible rfl)
                try simp only [Act.put, List.setIfInBounds_toArray, List.set_cons_zero, List.set_cons_succ]
                refine held_quiet 16 (v := ?v16q16) rfl (by kernel_rfl) (fun _ _ _ h => h) (by assumption) rfl ?hy16q16 ?rest16q16
                case hy16q16 => (intro wS hSw; (try dsimp only at hSw); go_simp; try with_reducible rfl)
                try simp only [Act.put, List.setIfInBounds_toArray, List.set_cons_zero, List.set_cons_succ]
                refine held_quiet 17 (v := ?v17q17) rfl (by kernel_rfl) (fun _ _ _ h => h) (by assumption) rfl ?hy17q17 ?rest17q17
                case hy17q17 => (intro wS hSw; (try dsimp only at hSw); go_simp; try with_reducible rfl)
                try simp only [Act.put, List.setIfInBounds_toArray, List.set_cons_zero, List.set_cons_succ]
                refine held_quiet 18 (v := ?v18q18) rfl (by kernel_rfl) (fun _ _ _ h => h) (by assumption) rfl ?hy18q18 ?rest18q18
                case hy18q18 => (intro wS hSw; (try dsimp only at hSw); go_simp; try with_reducible rfl)
                try simp only [Act.put, List.setIfInBounds_toArray, List.set_cons_zero, List.set_cons_succ]
                refine held_one 9 rfl (by kernel_rfl) ?_
                go_wp2_with (go_at_call 14; refine hsv.mono ?_; rintro e W2 ⟨rfl, st2, o2⟩)
                have T2 : Hid _ := st2
                have B2 : Hid (Below w.heap.size w W2) := (B1.out.drew).trans (old_low o2 B1.out.size)
                have hsv2 := HSV2.out _ st2
                clear st2 o2 hsv hS
                have hS2 : (fun W : World => W.cell? ⟨A, 0, none⟩ = some (.int .i64 0) ∧ W.cell? ⟨A, 2, none⟩ = some (.int .u64 (v : Int)) ∧ W.cell? ⟨A, 3, none⟩ = some (.string s) ∧ W.cell? ⟨g5, m, none⟩ = some (.pointer (some ⟨pd, 0, none⟩)) ∧ W.cell? ⟨g6, m, none⟩ = some (.pointer (some ⟨rd, 0, none⟩))) W2 := reads_of T2.out HVD.out HVR.out HI4.out HP.out HR.out
                try refine ⟨hS2, ?_⟩
                refine held_one 19 rfl (by kernel_rfl) ?_
                go_wp2_with (go_at_call 15; refine hsv2.mono ?_; rintro e W3 ⟨rfl, tz, o3⟩)
                have TZ : Hid (St W3 w.heap.size 11 E Z Z A #[.int .i64 0, .int .u8 (i : Int), .int .u64 (v : Int), .string s]) := tz
                have BZ : Hid (Below w.heap.size w W3) := B2.out.trans (old_low o3 B2.out.size)
                clear tz o3 hsv2 hS2
                have hS3 : (fun W : World => W.cell? ⟨A, 0, none⟩ = some (.int .i64 0) ∧ W.cell? ⟨A, 2, none⟩ = some (.int .u64 (v : Int)) ∧ W.cell? ⟨A, 3, none⟩ = some (.string s) ∧ W.cell? ⟨g5, m, none⟩ = some (.pointer (some ⟨pd, 0, none⟩)) ∧ W.cell? ⟨g6, m, none⟩ = some (.pointer (some ⟨rd, 0, none⟩))) W3 := reads_of TZ.out HVD.out HVR.out HI4.out HP.out HR.out
                try refine ⟨hS3, ?_⟩
                refine held_quiet 20 (v := ?v20q19) rfl (by kernel_rfl) (fun _ _ _ h => h) (by assumption) rfl ?hy20q19 ?rest20q19
                case hy20q19 => (intro wS hSw; (try dsimp only at hSw); go_simp; try with_reducible rfl)
                try simp only [Act.put, List.setIfInBounds_toArray, List.set_cons_zero, List.set_cons_succ]
                refine held_quiet 21 (v := ?v21q20) rfl (by kernel_rfl) (fun _ _ _ h => h) (by assumption) rfl ?hy21q20 ?rest21q20
                case hy21q20 => (intro wS hSw; (try dsimp only at hSw); go_simp; try with_reducible rfl)
                try simp only [Act.put, List.setIfInBounds_toArray, List.set_cons_zero, List.set_cons_succ]
                refine held_done (by kernel_rfl) ?_
                have hrr : ((r : Int) == r) = true := beq_self_eq_true _
                clear hS3 HSV2 T2 B2
                clear AD B1 d0
                go_wp2_with fail
                go_meet
                exact ⟨Z, rfl, TZ.out, IZ.out, BZ.out⟩
            by_cases hκ1 : κ = 1
            · subst hκ1
              as_aux_lemma =>
                clear hκ0
                obtain ⟨bl, ebl⟩ : ∃ bl, bl = blankB := ⟨_, rfl⟩
                have hbl := HBL.out
                rw [← ebl] at hbl
                have hbs : bl.size = 64 := by rw [ebl]; exact blank_size
                obtain ⟨q, eq⟩ : ∃ q, q = (s ++ bl).extract 0 64 := ⟨_, rfl⟩
                have hq := eq.symm
                have hts : (s ++ bl).size = s.size + 64 := by rw [ByteArray.size_append, hbs]
                have HQ : Hid (q.size = 64) := by unfold Hid; rw [eq, ByteArray.size_extract, hts]; omega
                have hm2 : ¬ 9223372036854775807 < s.size + 64 := by omega
                have hm5 : (64 : Int) ≤ (s.size : Int) + 64 := by omega
                have hS0 : V.drew.cell? ⟨A, 3, none⟩ = some (.string s) ∧ Below V.heap.size V V.drew := ⟨AV.out.atA 3, (Below.refl _ _).drew⟩
                clear eq ebl
                go_wp2_with fail
                refine region_det (fun W => W.cell? ⟨A, 3, none⟩ = some (.string s) ∧ Below V.heap.size V W) HMX.out (by kernel_rfl) hS0 ?_
                refine det_read 0 (v := ?vx1) rfl (by kernel_rfl) rfl ?hyx1 ?restx1
                case hyx1 => (intro wS hSw; (try dsimp only at hSw); go_simp; try with_reducible rfl)
                try simp only [Act.put, List.setIfInBounds_toArray, List.set_cons_zero, List.set_cons_succ]
                refine det_read 1 (v := ?vx2) rfl (by kernel_rfl) rfl ?hyx2 ?restx2
                case hyx2 => (intro wS hSw; (try dsimp only at hSw); go_simp; try with_reducible rfl)
                try simp only [Act.put, List.setIfInBounds_toArray, List.set_cons_zero, List.set_cons_succ]
                refine det_call 2 rfl (by kernel_rfl) rfl ?hyx6 (fun W h => det_still (hbl W) h) ?restx6
                case hyx6 => (intro wS hSw; go_simp; try with_reducible rfl)
                try simp only [Act.put, List.setIfInBounds_toArray, List.set_cons_zero, List.set_cons_succ]
                refine det_read 3 (v := ?vx3) rfl (by kernel_rfl) rfl ?hyx3 ?restx3
                case hyx3 => (intro wS hSw; (try dsimp only at hSw); go_simp; try with_reducible rfl)
                try simp only [Act.put, List.setIfInBounds_toArray, List.set_cons_zero, List.set_cons_succ]
                refine det_read 4 (v := ?vx4) rfl (by kernel_rfl) rfl ?hyx4 ?restx4
                case hyx4 => (intro wS hSw; (try dsimp only at hSw); go_simp; try with_reducible rfl)
                try simp only [Act.put, List.setIfInBounds_toArray, List.set_cons_zero, List.set_cons_succ]
                refine det_read 5 (v := ?vx5) rfl (by kernel_rfl) rfl ?hyx5 ?restx5
                case hyx5 => (intro wS hSw; (try dsimp only at hSw); go_simp; try with_reducible rfl)
                try simp only [Act.put, List.setIfInBounds_toArray, List.set_cons_zero, List.set_cons_succ]
                refine det_done (by kernel_rfl) ?_
                intro W1 hW
                have BW : Hid (Below w.heap.size w W1) := below2 BV.out hW.2
                have AW : Hid (St W1 w.heap.size 11 E X X A #[.int .i64 1, .int .u8 (i : Int), .int .u64 (v : Int), .string s]) := AV.out.below hW.2
                clear hS0 hW hq hts hm2 hm5 hbs hbl AV BV d0
                obtain ⟨Z, hZ⟩ : ∃ Z, Z = swap1 X m ((X m).wr2 q.data.toList) := ⟨_, rfl⟩
                have HZ : Hid (Z = swap1 X m ((X m).wr2 q.data.toList)) := hZ
                have IZ : Hid (∀ i, i < 4 → Inv11 (Z i) (5 * (k + 1))) := by rw [hZ]; exact inv_put HI.out HI4.out ((HI.out m HI4.out).wr2 _)
                have AD : Hid (St W1.drew w.heap.size 11 E X X A #[.int .i64 1, .int .u8 (i : Int), .int .u64 (v : Int), .string s]) := AW.out.below (Below.refl _ _).drew
                have B1 : Hid (Below w.heap.size w W1) := BW.out
                obtain ⟨r, hr⟩ : ∃ r, r = (X m).reachE 2 := ⟨_, rfl⟩
                have hsv : Calls Tryz.prog 17 #[.pointer (some ⟨pd, 0, none⟩), .int .i64 2, .string q] W1.drew fun e w' => e = .returned (.int .i64 (r : Nat)) ∧ St w' w.heap.size 11 E Z X A #[.int .i64 1, .int .u8 (i : Int), .int .u64 (v : Int), .string s] ∧ Only (Old w.heap.size W1.drew) W1.drew w' := by rw [← HP.out, hr, hZ]; exact AD.out.write HI4.out (HI.out m HI4.out) (by omega) q HQ.out
                have HSV2 : Hid (∀ W, St W w.heap.size 11 E Z X A #[.int .i64 1, .int .u8 (i : Int), .int .u64 (v : Int), .string s] → Calls Tryz.prog 18 #[.pointer (some ⟨rd, 0, none⟩), .int .i64 2, .string q] W fun e w' => e = .returned (.int .i64 (r : Nat)) ∧ St w' w.heap.size 11 E Z Z A #[.int .i64 1, .int .u8 (i : Int), .int .u64 (v : Int), .string s] ∧ Only (Old w.heap.size W) W w') := fun W h => by rw [← HR.out, hr]; rw [hZ] at h ⊢; exact h.rwrite HI4.out (HI.out m HI4.out) (by omega) q HQ.out
                clear hr hZ
                have d0 := AW.out.atA 0
                clear AW BW
                go_wp2_with fail
                refine wp_region_held (S := fun W => W.cell? ⟨A, 0, none⟩ = some (.int .i64 1) ∧ W.cell? ⟨A, 2, none⟩ = some (.int .u64 (v : Int)) ∧ W.cell? ⟨A, 3, none⟩ = some (.string s) ∧ W.cell? ⟨g5, m, none⟩ = some (.pointer (some ⟨pd, 0, none⟩)) ∧ W.cell? ⟨g6, m, none⟩ = some (.pointer (some ⟨rd, 0, none⟩))) HMX.out ?_
                have hS : (fun W : World => W.cell? ⟨A, 0, none⟩ = some (.int .i64 1) ∧ W.cell? ⟨A, 2, none⟩ = some (.int .u64 (v : Int)) ∧ W.cell? ⟨A, 3, none⟩ = some (.string s) ∧ W.cell? ⟨g5, m, none⟩ = some (.pointer (some ⟨pd, 0, none⟩)) ∧ W.cell? ⟨g6, m, none⟩ = some (.pointer (some ⟨rd, 0, none⟩))) W1.drew := reads_of AD.out HVD.out HVR.out HI4.out HP.out HR.out
                change wpAnyH _ _ _ _ _ _ _ _ W1.drew
                refine held_quiet 0 (v := ?v0q21) rfl (by kernel_rfl) (fun _ _ _ h => h) (by assumption) rfl ?hy0q21 ?rest0q21
                case hy0q21 => (intro wS hSw; (try dsimp only at hSw); go_simp; try with_reducible rfl)
                try simp only [Act.put, List.setIfInBounds_toArray, List.set_cons_zero, List.set_cons_succ]
                refine held_quiet 1 (v := ?v1q22) rfl (by kernel_rfl) (fun _ _ _ h => h) (by assumption) rfl ?hy1q22 ?rest1q22
                case hy1q22 => (intro wS hSw; (try dsimp only at hSw); go_simp; try with_reducible rfl)
                try simp only [Act.put, List.setIfInBounds_toArray, List.set_cons_zero, List.set_cons_succ]
                refine held_quiet 2 (v := ?v2q23) rfl (by kernel_rfl) (fun _ _ _ h => h) (by assumption) rfl ?hy2q23 ?rest2q23
                case hy2q23 => (intro wS hSw; (try dsimp only at hSw); go_simp; try with_reducible rfl)
                try simp only [Act.put, List.setIfInBounds_toArray, List.set_cons_zero, List.set_cons_succ]
                refine held_quiet 3 (v := ?v3q24) rfl (by kernel_rfl) (fun _ _ _ h => h) (by assumption) rfl ?hy3q24 ?rest3q24
                case hy3q24 => (intro wS hSw; (try dsimp only at hSw); go_simp; try with_reducible rfl)
                try simp only [Act.put, List.setIfInBounds_toArray, List.set_cons_zero, List.set_cons_succ]
                refine held_quiet 4 (v := ?v4q25) rfl (by kernel_rfl) (fun _ _ _ h => h) (by assumption) rfl ?hy4q25 ?rest4q25
                case hy4q25 => (intro wS hSw; (try dsimp only at hSw); go_simp; try with_reducible rfl)
                try simp only [Act.put, List.setIfInBounds_toArray, List.set_cons_zero, List.set_cons_succ]
                refine held_quiet 6 (v := ?v6q26) rfl (by kernel_rfl) (fun _ _ _ h => h) (by assumption) rfl ?hy6q26 ?rest6q26
                case hy6q26 => (intro wS hSw; (try dsimp only at hSw); go_simp; try with_reducible rfl)
                try simp only [Act.put, List.setIfInBounds_toArray, List.set_cons_zero, List.set_cons_succ]
                refine held_quiet 7 (v := ?v7q27) rfl (by kernel_rfl) (fun _ _ _ h => h) (by assumption) rfl ?hy7q27 ?rest7q27
                case hy7q27 => (intro wS hSw; (try dsimp only at hSw); go_simp; try with_reducible rfl)
                try simp only [Act.put, List.setIfInBounds_toArray, List.set_cons_zero, List.set_cons_succ]
                refine held_quiet 8 (v := ?v8q28) rfl (by kernel_rfl) (fun _ _ _ h => h) (by assumption) rfl ?hy8q28 ?rest8q28
                case hy8q28 => (intro wS hSw; (try dsimp only at hSw); go_simp; try with_reducible rfl)
                try simp only [Act.put, List.setIfInBounds_toArray, List.set_cons_zero, List.set_cons_succ]
                refine held_quiet 9 (v := ?v9q29) rfl (by kernel_rfl) (fun _ _ _ h => h) (by assumption) rfl ?hy9q29 ?rest9q29
                case hy9q29 => (intro wS hSw; (try dsimp only at hSw); go_simp; try with_reducible rfl)
                try simp only [Act.put, List.setIfInBounds_toArray, List.set_cons_zero, List.set_cons_succ]
                refine held_quiet 10 (v := ?v10q30) rfl (by kernel_rfl) (fun _ _ _ h => h) (by assumption) rfl ?hy10q30 ?rest10q30
                case hy10q30 => (intro wS hSw; (try dsimp only at hSw); go_simp; try with_reducible rfl)
                try simp only [Act.put, List.setIfInBounds_toArray, List.set_cons_zero, List.set_cons_succ]
                refine held_one 5 rfl (by kernel_rfl) ?_
                go_wp2_with (go_at_call 17; refine hsv.mono ?_; rintro e W2 ⟨rfl, st2, o2⟩)
                have T2 : Hid _ := st2
                have B2 : Hid (Below w.heap.size w W2) := (B1.out.drew).trans (old_low o2 B1.out.size)
                have hsv2 := HSV2.out _ st2
                clear st2 o2 hsv hS
                have hS2 : (fun W : World => W.cell? ⟨A, 0, none⟩ = some (.int .i64 1) ∧ W.cell? ⟨A, 2, none⟩ = some (.int .u64 (v : Int)) ∧ W.cell? ⟨A, 3, none⟩ = some (.string s) ∧ W.cell? ⟨g5, m, none⟩ = some (.pointer (some ⟨pd, 0, none⟩)) ∧ W.cell? ⟨g6, m, none⟩ = some (.pointer (some ⟨rd, 0, none⟩))) W2 := reads_of T2.out HVD.out HVR.out HI4.out HP.out HR.out
                try refine ⟨hS2, ?_⟩
                refine held_one 11 rfl (by kernel_rfl) ?_
                go_wp2_with (go_at_call 18; refine hsv2.mono ?_; rintro e W3 ⟨rfl, tz, o3⟩)
                have TZ : Hid (St W3 w.heap.size 11 E Z Z A #[.int .i64 1, .int .u8 (i : Int), .int .u64 (v : Int), .string s]) := tz
                have BZ : Hid (Below w.heap.size w W3) := B2.out.trans (old_low o3 B2.out.size)
                clear tz o3 hsv2 hS2
                have hS3 : (fun W : World => W.cell? ⟨A, 0, none⟩ = some (.int .i64 1) ∧ W.cell? ⟨A, 2, none⟩ = some (.int .u64 (v : Int)) ∧ W.cell? ⟨A, 3, none⟩ = some (.string s) ∧ W.cell? ⟨g5, m, none⟩ = some (.pointer (some ⟨pd, 0, none⟩)) ∧ W.cell? ⟨g6, m, none⟩ = some (.pointer (some ⟨rd, 0, none⟩))) W3 := reads_of TZ.out HVD.out HVR.out HI4.out HP.out HR.out
                try refine ⟨hS3, ?_⟩
                refine held_quiet 12 (v := ?v12q31) rfl (by kernel_rfl) (fun _ _ _ h => h) (by assumption) rfl ?hy12q31 ?rest12q31
                case hy12q31 => (intro wS hSw; (try dsimp only at hSw); go_simp; try with_reducible rfl)
                try simp only [Act.put, List.setIfInBounds_toArray, List.set_cons_zero, List.set_cons_succ]
                refine held_quiet 13 (v := ?v13q32) rfl (by kernel_rfl) (fun _ _ _ h => h) (by assumption) rfl ?hy13q32 ?rest13q32
                case hy13q32 => (intro wS hSw; (try dsimp only at hSw); go_simp; try with_reducible rfl)
                try simp only [Act.put, List.setIfInBounds_toArray, List.set_cons_zero, List.set_cons_succ]
                refine held_done (by kernel_rfl) ?_
                have hrr : ((r : Int) == r) = true := beq_self_eq_true _
                clear hS3 HSV2 T2 B2
                clear AD B1 d0
                go_wp2_with fail
                go_meet
                exact ⟨Z, rfl, TZ.out, IZ.out, BZ.out⟩
            by_cases hκ2 : κ = 2
            · subst hκ2
              as_aux_lemma =>
                clear hκ0 hκ1
                obtain ⟨W1, hW1⟩ : ∃ W, W = V := ⟨_, rfl⟩
                rw [← hW1] at AV BV d0 ⊢
                have AW : Hid (St W1 w.heap.size 11 E X X A #[.int .i64 2, .int .u8 (i : Int), .int .u64 (v : Int), .string s]) := AV.out
                clear hW1
                obtain ⟨Z, hZ⟩ : ∃ Z, Z = swap1 X m (X m).sp2 := ⟨_, rfl⟩
                have HZ : Hid (Z = swap1 X m (X m).sp2) := hZ
                have IZ : Hid (∀ i, i < 4 → Inv11 (Z i) (5 * (k + 1))) := by rw [hZ]; exact inv_put HI.out HI4.out (HI.out m HI4.out).sp2
                have AD : Hid (St W1.drew w.heap.size 11 E X X A #[.int .i64 2, .int .u8 (i : Int), .int .u64 (v : Int), .string s]) := AW.out.below (Below.refl _ _).drew
                have B1 : Hid (Below w.heap.size w W1) := BV.out
                obtain ⟨r, hr⟩ : ∃ r, r = (X m).reachE 2 := ⟨_, rfl⟩
                have hsv : Calls Tryz.prog 19 #[.pointer (some ⟨pd, 0, none⟩), .int .i64 2] W1.drew fun e w' => e = .returned (.int .i64 (r : Nat)) ∧ St w' w.heap.size 11 E Z X A #[.int .i64 2, .int .u8 (i : Int), .int .u64 (v : Int), .string s] ∧ Only (Old w.heap.size W1.drew) W1.drew w' := by rw [← HP.out, hr, hZ]; exact AD.out.spoil HI4.out (HI.out m HI4.out)
                have HSV2 : Hid (∀ W, St W w.heap.size 11 E Z X A #[.int .i64 2, .int .u8 (i : Int), .int .u64 (v : Int), .string s] → Calls Tryz.prog 20 #[.pointer (some ⟨rd, 0, none⟩), .int .i64 2] W fun e w' => e = .returned (.int .i64 (r : Nat)) ∧ St w' w.heap.size 11 E Z Z A #[.int .i64 2, .int .u8 (i : Int), .int .u64 (v : Int), .string s] ∧ Only (Old w.heap.size W) W w') := fun W h => by rw [← HR.out, hr]; rw [hZ] at h ⊢; exact h.rspoil HI4.out (HI.out m HI4.out)
                clear hr hZ
                clear AV BV AW
                go_wp2_with fail
                refine wp_region_held (S := fun W => W.cell? ⟨A, 0, none⟩ = some (.int .i64 2) ∧ W.cell? ⟨A, 2, none⟩ = some (.int .u64 (v : Int)) ∧ W.cell? ⟨A, 3, none⟩ = some (.string s) ∧ W.cell? ⟨g5, m, none⟩ = some (.pointer (some ⟨pd, 0, none⟩)) ∧ W.cell? ⟨g6, m, none⟩ = some (.pointer (some ⟨rd, 0, none⟩))) HMX.out ?_
                have hS : (fun W : World => W.cell? ⟨A, 0, none⟩ = some (.int .i64 2) ∧ W.cell? ⟨A, 2, none⟩ = some (.int .u64 (v : Int)) ∧ W.cell? ⟨A, 3, none⟩ = some (.string s) ∧ W.cell? ⟨g5, m, none⟩ = some (.pointer (some ⟨pd, 0, none⟩)) ∧ W.cell? ⟨g6, m, none⟩ = some (.pointer (some ⟨rd, 0, none⟩))) W1.drew := reads_of AD.out HVD.out HVR.out HI4.out HP.out HR.out
                change wpAnyH _ _ _ _ _ _ _ _ W1.drew
                refine held_quiet 0 (v := ?v0q33) rfl (by kernel_rfl) (fun _ _ _ h => h) (by assumption) rfl ?hy0q33 ?rest0q33
                case hy0q33 => (intro wS hSw; (try dsimp only at hSw); go_simp; try with_reducible rfl)
                try simp only [Act.put, List.setIfInBounds_toArray, List.set_cons_zero, List.set_cons_succ]
                refine held_quiet 1 (v := ?v1q34) rfl (by kernel_rfl) (fun _ _ _ h => h) (by assumption) rfl ?hy1q34 ?rest1q34
                case hy1q34 => (intro wS hSw; (try dsimp only at hSw); go_simp; try with_reducible rfl)
                try simp only [Act.put, List.setIfInBounds_toArray, List.set_cons_zero, List.set_cons_succ]
                refine held_quiet 2 (v := ?v2q35) rfl (by kernel_rfl) (fun _ _ _ h => h) (by assumption) rfl ?hy2q35 ?rest2q35
                case hy2q35 => (intro wS hSw; (try dsimp only at hSw); go_simp; try with_reducible rfl)
                try simp only [Act.put, List.setIfInBounds_toArray, List.set_cons_zero, List.set_cons_succ]
                refine held_quiet 3 (v := ?v3q36) rfl (by kernel_rfl) (fun _ _ _ h => h) (by assumption) rfl ?hy3q36 ?rest3q36
                case hy3q36 => (intro wS hSw; (try dsimp only at hSw); go_simp; try with_reducible rfl)
                try simp only [Act.put, List.setIfInBounds_toArray, List.set_cons_zero, List.set_cons_succ]
                refine held_quiet 5 (v := ?v5q37) rfl (by kernel_rfl) (fun _ _ _ h => h) (by assumption) rfl ?hy5q37 ?rest5q37
                case hy5q37 => (intro wS hSw; (try dsimp only at hSw); go_simp; try with_reducible rfl)
                try simp only [Act.put, List.setIfInBounds_toArray, List.set_cons_zero, List.set_cons_succ]
                refine held_quiet 6 (v := ?v6q38) rfl (by kernel_rfl) (fun _ _ _ h => h) (by assumption) rfl ?hy6q38 ?rest6q38
                case hy6q38 => (intro wS hSw; (try dsimp only at hSw); go_simp; try with_reducible rfl)
                try simp only [Act.put, List.setIfInBounds_toArray, List.set_cons_zero, List.set_cons_succ]
                refine held_quiet 7 (v := ?v7q39) rfl (by kernel_rfl) (fun _ _ _ h => h) (by assumption) rfl ?hy7q39 ?rest7q39
                case hy7q39 => (intro wS hSw; (try dsimp only at hSw); go_simp; try with_reducible rfl)
                try simp only [Act.put, List.setIfInBounds_toArray, List.set_cons_zero, List.set_cons_succ]
                refine held_quiet 8 (v := ?v8q40) rfl (by kernel_rfl) (fun _ _ _ h => h) (by assumption) rfl ?hy8q40 ?rest8q40
                case hy8q40 => (intro wS hSw; (try dsimp only at hSw); go_simp; try with_reducible rfl)
                try simp only [Act.put, List.setIfInBounds_toArray, List.set_cons_zero, List.set_cons_succ]
                refine held_one 4 rfl (by kernel_rfl) ?_
                go_wp2_with (go_at_call 19; refine hsv.mono ?_; rintro e W2 ⟨rfl, st2, o2⟩)
                have T2 : Hid _ := st2
                have B2 : Hid (Below w.heap.size w W2) := (B1.out.drew).trans (old_low o2 B1.out.size)
                have hsv2 := HSV2.out _ st2
                clear st2 o2 hsv hS
                have hS2 : (fun W : World => W.cell? ⟨A, 0, none⟩ = some (.int .i64 2) ∧ W.cell? ⟨A, 2, none⟩ = some (.int .u64 (v : Int)) ∧ W.cell? ⟨A, 3, none⟩ = some (.string s) ∧ W.cell? ⟨g5, m, none⟩ = some (.pointer (some ⟨pd, 0, none⟩)) ∧ W.cell? ⟨g6, m, none⟩ = some (.pointer (some ⟨rd, 0, none⟩))) W2 := reads_of T2.out HVD.out HVR.out HI4.out HP.out HR.out
                try refine ⟨hS2, ?_⟩
                refine held_one 9 rfl (by kernel_rfl) ?_
                go_wp2_with (go_at_call 20; refine hsv2.mono ?_; rintro e W3 ⟨rfl, tz, o3⟩)
                have TZ : Hid (St W3 w.heap.size 11 E Z Z A #[.int .i64 2, .int .u8 (i : Int), .int .u64 (v : Int), .string s]) := tz
                have BZ : Hid (Below w.heap.size w W3) := B2.out.trans (old_low o3 B2.out.size)
                clear tz o3 hsv2 hS2
                have hS3 : (fun W : World => W.cell? ⟨A, 0, none⟩ = some (.int .i64 2) ∧ W.cell? ⟨A, 2, none⟩ = some (.int .u64 (v : Int)) ∧ W.cell? ⟨A, 3, none⟩ = some (.string s) ∧ W.cell? ⟨g5, m, none⟩ = some (.pointer (some ⟨pd, 0, none⟩)) ∧ W.cell? ⟨g6, m, none⟩ = some (.pointer (some ⟨rd, 0, none⟩))) W3 := reads_of TZ.out HVD.out HVR.out HI4.out HP.out HR.out
                try refine ⟨hS3, ?_⟩
                refine held_quiet 10 (v := ?v10q41) rfl (by kernel_rfl) (fun _ _ _ h => h) (by assumption) rfl ?hy10q41 ?rest10q41
                case hy10q41 => (intro wS hSw; (try dsimp only at hSw); go_simp; try with_reducible rfl)
                try simp only [Act.put, List.setIfInBounds_toArray, List.set_cons_zero, List.set_cons_succ]
                refine held_quiet 11 (v := ?v11q42) rfl (by kernel_rfl) (fun _ _ _ h => h) (by assumption) rfl ?hy11q42 ?rest11q42
                case hy11q42 => (intro wS hSw; (try dsimp only at hSw); go_simp; try with_reducible rfl)
                try simp only [Act.put, List.setIfInBounds_toArray, List.set_cons_zero, List.set_cons_succ]
                refine held_done (by kernel_rfl) ?_
                have hrr : ((r : Int) == r) = true := beq_self_eq_true _
                clear hS3 HSV2 T2 B2
                clear AD B1 d0
                go_wp2_with fail
                go_meet
                exact ⟨Z, rfl, TZ.out, IZ.out, BZ.out⟩
            by_cases hκ3 : κ = 3
            · subst hκ3
              as_aux_lemma =>
                clear hκ0 hκ1 hκ2
                obtain ⟨Z, hZ⟩ : ∃ Z, Z = swap1 X m (X m).die := ⟨_, rfl⟩
                have HZ : Hid (Z = swap1 X m (X m).die) := hZ
                have IZ : Hid (∀ i, i < 4 → Inv11 (Z i) (5 * (k + 1))) := by rw [hZ]; exact inv_put HI.out HI4.out (HI.out m HI4.out).die
                have hsv : Calls Tryz.prog 21 #[.pointer (some ⟨pd, 0, none⟩)] V fun e w' => e = .returned (.tuple #[]) ∧ St w' w.heap.size 11 E Z X A #[.int .i64 3, .int .u8 (i : Int), .int .u64 (v : Int), .string s] ∧ Only (Old w.heap.size V) V w' := by rw [← HP.out, hZ]; exact AV.out.die HI4.out
                have r5 := (reads_of AV.out HVD.out HVR.out HI4.out HP.out HR.out).2.2.2.1
                clear hZ
                go_wp2_with fail
                refine hsv.mono ?_
                rintro e W2 ⟨rfl, st2, o2⟩
                have B2 : Below w.heap.size w W2 := BV.out.trans (old_low o2 BV.out.size)
                obtain ⟨⟨t1, o3⟩, ⟨v3, c3⟩, f3⟩ := st2.gone HI4.out
                rw [HR.out] at t1 o3 c3 f3
                rw [← HZ.out] at t1
                have r6 := (reads_of st2 HVD.out HVR.out HI4.out HP.out HR.out).2.2.2.2
                have TZ : Hid (St (W2.setCell ⟨rd, 3, none⟩ (.bool true)) w.heap.size 11 E Z Z A #[.int .i64 3, .int .u8 (i : Int), .int .u64 (v : Int), .string s]) := t1
                have BZ : Hid (Below w.heap.size w (W2.setCell ⟨rd, 3, none⟩ (.bool true))) := B2.trans (old_low o3 B2.size)
                clear hsv st2 o2 o3 t1 B2 AV BV r5 d0
                go_wp2_with fail
                go_meet
                exact ⟨Z, rfl, TZ.out, IZ.out, BZ.out⟩
            by_cases hκ4 : κ = 4
            · subst hκ4
              as_aux_lemma =>
                clear hκ0 hκ1 hκ2 hκ3
                have HVV : Hid (v < 18446744073709551616) := hiv.out.2.1
                obtain ⟨Z, hZ⟩ : ∃ Z, Z = Pg.allD who5 X ⟨v, s⟩ 5 := ⟨_, rfl⟩
                have HZ : Hid (Z = Pg.allD who5 X ⟨v, s⟩ 5) := hZ
                have IZ : Hid (∀ i, i < 4 → Inv11 (Z i) (5 * (k + 1))) := by rw [hZ]; exact inv_all HI.out _
                obtain ⟨an, han⟩ : ∃ an, an = (Pg.allA ⟨v, s⟩ (Pg.allN who5 X ⟨v, s⟩ 5)).1 := ⟨_, rfl⟩
                obtain ⟨ae, hae⟩ : ∃ ae, ae = (Pg.allA ⟨v, s⟩ (Pg.allN who5 X ⟨v, s⟩ 5)).2 := ⟨_, rfl⟩
                have HF : Hid (∀ i, i < 4 → (X i).Fit11) := fun i hi => (HI.out i hi).fit (by omega)
                have hsv : Calls Tryz.prog 22 #[.slice (some ⟨g5, 0, none⟩) 5 c6, .agg #[.int .u64 (v : Int), .string s]] V fun e w' => e = .returned (.tuple #[.int .i64 (an : Nat), .int .i64 (ae : Nat)]) ∧ St w' w.heap.size 11 E Z X A #[.int .i64 4, .int .u8 (i : Int), .int .u64 (v : Int), .string s] ∧ Only (Old w.heap.size V) V w' := by rw [han, hae, hZ]; exact AV.out.all P HVD.out HF.out ⟨v, s⟩ HVV.out
                have HSV2 : Hid (∀ W, St W w.heap.size 11 E Z X A #[.int .i64 4, .int .u8 (i : Int), .int .u64 (v : Int), .string s] → Calls Tryz.prog 23 #[.slice (some ⟨g6, 0, none⟩) 5 c8, .agg #[.int .u64 (v : Int), .string s]] W fun e w' => e = .returned (.tuple #[.int .i64 (an : Nat), .int .i64 (ae : Nat)]) ∧ St w' w.heap.size 11 E Z Z A #[.int .i64 4, .int .u8 (i : Int), .int .u64 (v : Int), .string s] ∧ Only (Old w.heap.size W) W w') := fun W h => by rw [han, hae]; rw [hZ] at h ⊢; exact h.rall HVR.out HF.out ⟨v, s⟩ HVV.out
                have d2 := (reads_of AV.out HVD.out HVR.out HI4.out HP.out HR.out).2.1
                have d3 := (reads_of AV.out HVD.out HVR.out HI4.out HP.out HR.out).2.2.1
                clear hZ han hae
                go_wp2_with fail
                refine hsv.mono ?_
                rintro e W2 ⟨rfl, st2, o2⟩
                have B2 : Hid (Below w.heap.size w W2) := BV.out.trans (old_low o2 BV.out.size)
                have T2 : Hid _ := st2
                have e2 := (reads_of st2 HVD.out HVR.out HI4.out HP.out HR.out).2.1
                have e3 := (reads_of st2 HVD.out HVR.out HI4.out HP.out HR.out).2.2.1
                clear hsv st2 o2 d2 d3 AV BV d0
                go_wp2_with fail
                refine (HSV2.out _ T2.out).mono ?_
                rintro e W3 ⟨rfl, tz, o3⟩
                have TZ : Hid (St W3 w.heap.size 11 E Z Z A #[.int .i64 4, .int .u8 (i : Int), .int .u64 (v : Int), .string s]) := tz
                have BZ : Hid (Below w.heap.size w W3) := B2.out.trans (old_low o3 B2.out.size)
                clear tz o3 e2 e3 T2 B2 HSV2
                go_wp2_with fail
                go_meet
                exact ⟨Z, rfl, TZ.out, IZ.out, BZ.out⟩
            by_cases hκ5 : κ = 5
            · subst hκ5
              as_aux_lemma =>
                clear hκ0 hκ1 hκ2 hκ3 hκ4
                obtain ⟨W1, hW1⟩ : ∃ W, W = V := ⟨_, rfl⟩
                rw [← hW1] at AV BV d0 ⊢
                have AW : Hid (St W1 w.heap.size 11 E X X A #[.int .i64 5, .int .u8 (i : Int), .int .u64 (v : Int), .string s]) := AV.out
                clear hW1
                have HBT : Hid (∀ W, Calls Tryz.prog 24 #[.string s] W fun e w' => e = .returned (.string (bits8 s)) ∧ w' = W) := bits_any s (by omega)
                obtain ⟨t, ht⟩ : ∃ t, t = bits8 s := ⟨_, rfl⟩
                rw [← ht] at HBT
                have hbt := HBT.out
                clear ht
                have HVV : Hid (v < 18446744073709551616) := hiv.out.2.1
                obtain ⟨Z, hZ⟩ : ∃ Z, Z = swap1 X m ((X m).pgSaveD ⟨v, t⟩) := ⟨_, rfl⟩
                have HZ : Hid (Z = swap1 X m ((X m).pgSaveD ⟨v, t⟩)) := hZ
                have IZ : Hid (∀ i, i < 4 → Inv11 (Z i) (5 * (k + 1))) := by rw [hZ]; exact inv_put HI.out HI4.out ((HI.out m HI4.out).save _)
                have AD : Hid (St W1.drew w.heap.size 11 E X X A #[.int .i64 5, .int .u8 (i : Int), .int .u64 (v : Int), .string s]) := AW.out.below (Below.refl _ _).drew
                have B1 : Hid (Below w.heap.size w W1) := BV.out
                obtain ⟨r, hr⟩ : ∃ r, r = (X m).pgSaveE ⟨v, t⟩ := ⟨_, rfl⟩
                have hsv : Calls Tryz.prog 14 #[.pointer (some ⟨pd, 0, none⟩), .agg #[.int .u64 (v : Int), .string t]] W1.drew fun e w' => e = .returned (.int .i64 (r : Nat)) ∧ St w' w.heap.size 11 E Z X A #[.int .i64 5, .int .u8 (i : Int), .int .u64 (v : Int), .string s] ∧ Only (Old w.heap.size W1.drew) W1.drew w' := by rw [← HP.out, hr, hZ]; exact AD.out.save P HI4.out ((HI.out m HI4.out).fit (by omega)) ⟨v, t⟩ HVV.out
                have HSV2 : Hid (∀ W, St W w.heap.size 11 E Z X A #[.int .i64 5, .int .u8 (i : Int), .int .u64 (v : Int), .string s] → Calls Tryz.prog 15 #[.pointer (some ⟨rd, 0, none⟩), .agg #[.int .u64 (v : Int), .string t]] W fun e w' => e = .returned (.int .i64 (r : Nat)) ∧ St w' w.heap.size 11 E Z Z A #[.int .i64 5, .int .u8 (i : Int), .int .u64 (v : Int), .string s] ∧ Only (Old w.heap.size W) W w') := fun W h => by rw [← HR.out, hr]; rw [hZ] at h ⊢; exact h.rsave HI4.out ((HI.out m HI4.out).fit (by omega)) ⟨v, t⟩ HVV.out
                clear hr hZ
                clear AV BV AW
                go_wp2_with fail
                refine wp_region_held (S := fun W => W.cell? ⟨A, 0, none⟩ = some (.int .i64 5) ∧ W.cell? ⟨A, 2, none⟩ = some (.int .u64 (v : Int)) ∧ W.cell? ⟨A, 3, none⟩ = some (.string s) ∧ W.cell? ⟨g5, m, none⟩ = some (.pointer (some ⟨pd, 0, none⟩)) ∧ W.cell? ⟨g6, m, none⟩ = some (.pointer (some ⟨rd, 0, none⟩))) HMX.out ?_
                have hS : (fun W : World => W.cell? ⟨A, 0, none⟩ = some (.int .i64 5) ∧ W.cell? ⟨A, 2, none⟩ = some (.int .u64 (v : Int)) ∧ W.cell? ⟨A, 3, none⟩ = some (.string s) ∧ W.cell? ⟨g5, m, none⟩ = some (.pointer (some ⟨pd, 0, none⟩)) ∧ W.cell? ⟨g6, m, none⟩ = some (.pointer (some ⟨rd, 0, none⟩))) W1.drew := reads_of AD.out HVD.out HVR.out HI4.out HP.out HR.out
                change wpAnyH _ _ _ _ _ _ _ _ W1.drew
                refine held_quiet 0 (v := ?v0q43) rfl (by kernel_rfl) (fun _ _ _ h => h) (by assumption) rfl ?hy0q43 ?rest0q43
                case hy0q43 => (intro wS hSw; (try dsimp only at hSw); go_simp; try with_reducible rfl)
                try simp only [Act.put, List.setIfInBounds_toArray, List.set_cons_zero, List.set_cons_succ]
                refine held_quiet 1 (v := ?v1q44) rfl (by kernel_rfl) (fun _ _ _ h => h) (by assumption) rfl ?hy1q44 ?rest1q44
                case hy1q44 => (intro wS hSw; (try dsimp only at hSw); go_simp; try with_reducible rfl)
                try simp only [Act.put, List.setIfInBounds_toArray, List.set_cons_zero, List.set_cons_succ]
                refine held_quiet 2 (v := ?v2q45) rfl (by kernel_rfl) (fun _ _ _ h => h) (by assumption) rfl ?hy2q45 ?rest2q45
                case hy2q45 => (intro wS hSw; (try dsimp only at hSw); go_simp; try with_reducible rfl)
                try simp only [Act.put, List.setIfInBounds_toArray, List.set_cons_zero, List.set_cons_succ]
                refine held_quiet 3 (v := ?v3q46) rfl (by kernel_rfl) (fun _ _ _ h => h) (by assumption) rfl ?hy3q46 ?rest3q46
                case hy3q46 => (intro wS hSw; (try dsimp only at hSw); go_simp; try with_reducible rfl)
                try simp only [Act.put, List.setIfInBounds_toArray, List.set_cons_zero, List.set_cons_succ]
                refine held_quiet 4 (v := ?v4q47) rfl (by kernel_rfl) (fun _ _ _ h => h) (by assumption) rfl ?hy4q47 ?rest4q47
                case hy4q47 => (intro wS hSw; (try dsimp only at hSw); go_simp; try with_reducible rfl)
                try simp only [Act.put, List.setIfInBounds_toArray, List.set_cons_zero, List.set_cons_succ]
                refine held_quiet 5 (v := ?v5q48) rfl (by kernel_rfl) (fun _ _ _ h => h) (by assumption) rfl ?hy5q48 ?rest5q48
                case hy5q48 => (intro wS hSw; (try dsimp only at hSw); go_simp; try with_reducible rfl)
                try simp only [Act.put, List.setIfInBounds_toArray, List.set_cons_zero, List.set_cons_succ]
                refine held_quiet 6 (v := ?v6q49) rfl (by kernel_rfl) (fun _ _ _ h => h) (by assumption) rfl ?hy6q49 ?rest6q49
                case hy6q49 => (intro wS hSw; (try dsimp only at hSw); go_simp; try with_reducible rfl)
                try simp only [Act.put, List.setIfInBounds_toArray, List.set_cons_zero, List.set_cons_succ]
                refine held_quiet 7 (v := ?v7q50) rfl (by kernel_rfl) (fun _ _ _ h => h) (by assumption) rfl ?hy7q50 ?rest7q50
                case hy7q50 => (intro wS hSw; (try dsimp only at hSw); go_simp; try with_reducible rfl)
                try simp only [Act.put, List.setIfInBounds_toArray, List.set_cons_zero, List.set_cons_succ]
                refine held_quiet 11 (v := ?v11q51) rfl (by kernel_rfl) (fun _ _ _ h => h) (by assumption) rfl ?hy11q51 ?rest11q51
                case hy11q51 => (intro wS hSw; (try dsimp only at hSw); go_simp; try with_reducible rfl)
                try simp only [Act.put, List.setIfInBounds_toArray, List.set_cons_zero, List.set_cons_succ]
                refine held_quiet 12 (v := ?v12q52) rfl (by kernel_rfl) (fun _ _ _ h => h) (by assumption) rfl ?hy12q52 ?rest12q52
                case hy12q52 => (intro wS hSw; (try dsimp only at hSw); go_simp; try with_reducible rfl)
                try simp only [Act.put, List.setIfInBounds_toArray, List.set_cons_zero, List.set_cons_succ]
                refine held_quiet 13 (v := ?v13q53) rfl (by kernel_rfl) (fun _ _ _ h => h) (by assumption) rfl ?hy13q53 ?rest13q53
                case hy13q53 => (intro wS hSw; (try dsimp only at hSw); go_simp; try with_reducible rfl)
                try simp only [Act.put, List.setIfInBounds_toArray, List.set_cons_zero, List.set_cons_succ]
                refine held_quiet 14 (v := ?v14q54) rfl (by kernel_rfl) (fun _ _ _ h => h) (by assumption) rfl ?hy14q54 ?rest14q54
                case hy14q54 => (intro wS hSw; (try dsimp only at hSw); go_simp; try with_reducible rfl)
                try simp only [Act.put, List.setIfInBounds_toArray, List.set_cons_zero, List.set_cons_succ]
                refine held_quiet 15 (v := ?v15q55) rfl (by kernel_rfl) (fun _ _ _ h => h) (by assumption) rfl ?hy15q55 ?rest15q55
                case hy15q55 => (intro wS hSw; (try dsimp only at hSw); go_simp; try with_reducible rfl)
                try simp only [Act.put, List.setIfInBounds_toArray, List.set_cons_zero, List.set_cons_succ]
                refine held_quiet 16 (v := ?v16q56) rfl (by kernel_rfl) (fun _ _ _ h => h) (by assumption) rfl ?hy16q56 ?rest16q56
                case hy16q56 => (intro wS hSw; (try dsimp only at hSw); go_simp; try with_reducible rfl)
                try simp only [Act.put, List.setIfInBounds_toArray, List.set_cons_zero, List.set_cons_succ]
                refine held_quiet 17 (v := ?v17q57) rfl (by kernel_rfl) (fun _ _ _ h => h) (by assumption) rfl ?hy17q57 ?rest17q57
                case hy17q57 => (intro wS hSw; (try dsimp only at hSw); go_simp; try with_reducible rfl)
                try simp only [Act.put, List.setIfInBounds_toArray, List.set_cons_zero, List.set_cons_succ]
                refine held_quiet 18 (v := ?v18q58) rfl (by kernel_rfl) (fun _ _ _ h => h) (by assumption) rfl ?hy18q58 ?rest18q58
                case hy18q58 => (intro wS hSw; (try dsimp only at hSw); go_simp; try with_reducible rfl)
                try simp only [Act.put, List.setIfInBounds_toArray, List.set_cons_zero, List.set_cons_succ]
                refine held_one 8 rfl (by kernel_rfl) ?_
                go_wp2_with (go_at_call 24; refine (hbt _).mono ?_; rintro e W' ⟨rfl, rfl⟩)
                try refine ⟨hS, ?_⟩
                refine held_quiet 9 (v := ?v9q59) rfl (by kernel_rfl) (fun _ _ _ h => h) (by assumption) rfl ?hy9q59 ?rest9q59
                case hy9q59 => (intro wS hSw; (try dsimp only at hSw); go_simp; try with_reducible rfl)
                try simp only [Act.put, List.setIfInBounds_toArray, List.set_cons_zero, List.set_cons_succ]
                refine held_one 10 rfl (by kernel_rfl) ?_
                go_wp2_with (go_at_call 14; refine hsv.mono ?_; rintro e W2 ⟨rfl, st2, o2⟩)
                have T2 : Hid _ := st2
                have B2 : Hid (Below w.heap.size w W2) := (B1.out.drew).trans (old_low o2 B1.out.size)
                have hsv2 := HSV2.out _ st2
                clear st2 o2 hsv hS
                have hS2 : (fun W : World => W.cell? ⟨A, 0, none⟩ = some (.int .i64 5) ∧ W.cell? ⟨A, 2, none⟩ = some (.int .u64 (v : Int)) ∧ W.cell? ⟨A, 3, none⟩ = some (.string s) ∧ W.cell? ⟨g5, m, none⟩ = some (.pointer (some ⟨pd, 0, none⟩)) ∧ W.cell? ⟨g6, m, none⟩ = some (.pointer (some ⟨rd, 0, none⟩))) W2 := reads_of T2.out HVD.out HVR.out HI4.out HP.out HR.out
                try refine ⟨hS2, ?_⟩
                refine held_one 19 rfl (by kernel_rfl) ?_
                go_wp2_with (go_at_call 24; refine (hbt _).mono ?_; rintro e W' ⟨rfl, rfl⟩)
                try refine ⟨hS2, ?_⟩
                refine held_quiet 20 (v := ?v20q60) rfl (by kernel_rfl) (fun _ _ _ h => h) (by assumption) rfl ?hy20q60 ?rest20q60
                case hy20q60 => (intro wS hSw; (try dsimp only at hSw); go_simp; try with_reducible rfl)
                try simp only [Act.put, List.setIfInBounds_toArray, List.set_cons_zero, List.set_cons_succ]
                refine held_one 21 rfl (by kernel_rfl) ?_
                go_wp2_with (go_at_call 15; refine hsv2.mono ?_; rintro e W3 ⟨rfl, tz, o3⟩)
                have TZ : Hid (St W3 w.heap.size 11 E Z Z A #[.int .i64 5, .int .u8 (i : Int), .int .u64 (v : Int), .string s]) := tz
                have BZ : Hid (Below w.heap.size w W3) := B2.out.trans (old_low o3 B2.out.size)
                clear tz o3 hsv2 hS2
                have hS3 : (fun W : World => W.cell? ⟨A, 0, none⟩ = some (.int .i64 5) ∧ W.cell? ⟨A, 2, none⟩ = some (.int .u64 (v : Int)) ∧ W.cell? ⟨A, 3, none⟩ = some (.string s) ∧ W.cell? ⟨g5, m, none⟩ = some (.pointer (some ⟨pd, 0, none⟩)) ∧ W.cell? ⟨g6, m, none⟩ = some (.pointer (some ⟨rd, 0, none⟩))) W3 := reads_of TZ.out HVD.out HVR.out HI4.out HP.out HR.out
                try refine ⟨hS3, ?_⟩
                refine held_quiet 22 (v := ?v22q61) rfl (by kernel_rfl) (fun _ _ _ h => h) (by assumption) rfl ?hy22q61 ?rest22q61
                case hy22q61 => (intro wS hSw; (try dsimp only at hSw); go_simp; try with_reducible rfl)
                try simp only [Act.put, List.setIfInBounds_toArray, List.set_cons_zero, List.set_cons_succ]
                refine held_quiet 23 (v := ?v23q62) rfl (by kernel_rfl) (fun _ _ _ h => h) (by assumption) rfl ?hy23q62 ?rest23q62
                case hy23q62 => (intro wS hSw; (try dsimp only at hSw); go_simp; try with_reducible rfl)
                try simp only [Act.put, List.setIfInBounds_toArray, List.set_cons_zero, List.set_cons_succ]
                refine held_done (by kernel_rfl) ?_
                have hrr : ((r : Int) == r) = true := beq_self_eq_true _
                clear hS3 HSV2 T2 B2
                clear AD B1 d0
                go_wp2_with fail
                go_meet
                exact ⟨Z, rfl, TZ.out, IZ.out, BZ.out⟩
            as_aux_lemma =>
              have k0 : (κ == 0) = false := by rw [beq_eq_false_iff_ne]; exact hκ0
              have k1 : (κ == 1) = false := by rw [beq_eq_false_iff_ne]; exact hκ1
              have k2 : (κ == 2) = false := by rw [beq_eq_false_iff_ne]; exact hκ2
              have k3 : (κ == 3) = false := by rw [beq_eq_false_iff_ne]; exact hκ3
              have k4 : (κ == 4) = false := by rw [beq_eq_false_iff_ne]; exact hκ4
              have k5 : (κ == 5) = false := by rw [beq_eq_false_iff_ne]; exact hκ5
              clear hκ0 hκ1 hκ2 hκ3 hκ4 hκ5
              obtain ⟨Z, hZ⟩ : ∃ Z, Z = X := ⟨_, rfl⟩
              have TZ : Hid (St V w.heap.size 11 E Z Z A #[.int .i64 κ, .int .u8 (i : Int), .int .u64 (v : Int), .string s]) := by rw [hZ]; exact AV.out
              have IZ : Hid (∀ i, i < 4 → Inv11 (Z i) (5 * (k + 1))) := by rw [hZ]; exact fun i hi => (HI.out i hi).le (by omega)
              have BZ : Hid (Below w.heap.size w V) := BV.out
              clear hZ AV BV HI hgoes
              go_wp2_with fail
              go_meet
              exact ⟨Z, rfl, TZ.out, IZ.out, BZ.out⟩
          case rest =>
            obtain ⟨Z, rfl, tz, iz, bz⟩ := hcut
            have TZ : Hid (St wc w.heap.size 11 E Z Z A #[.int .i64 κ, .int .u8 (i : Int), .int .u64 (v : Int), .string s]) := tz
            have IZ : Hid (∀ i, i < 4 → Inv11 (Z i) (5 * (k + 1))) := iz
            have BZ : Hid (Below w.heap.size w wc) := bz
            clear tz iz bz AV BV d0 HI hgoes
            as_aux_lemma =>
              have HG : Hid (∀ i, i < 4 → (Z i).goes = false) := fun i hi => (IZ.out i hi).goes
              obtain ⟨pg, hpg⟩ : ∃ pg, pg = (Z m).pgS := ⟨_, rfl⟩
              obtain ⟨er, her⟩ : ∃ er, er = (Z m).pgE := ⟨_, rfl⟩
              obtain ⟨js, hjs⟩ : ∃ js : ByteArray, js = ⟨(Pg.joinL who5 Z ev 5).toArray⟩ := ⟨_, rfl⟩
              obtain ⟨jb, hjb⟩ : ∃ jb, jb = Pg.joinB who5 Z ev 5 := ⟨_, rfl⟩
              have HLo : Hid (∀ W, St W w.heap.size 11 E Z Z A #[.int .i64 κ, .int .u8 (i : Int), .int .u64 (v : Int), .string s] → Calls Tryz.prog 25 #[.pointer (some ⟨pd, 0, none⟩)] W fun e w' => e = .returned (.tuple #[pgV pg, .int .i64 (er : Nat)]) ∧ Below W.heap.size W w') := fun W h => by rw [← HP.out, hpg, her]; exact h.load P HI4.out (HG.out m HI4.out)
              have HLr : Hid (∀ W, St W w.heap.size 11 E Z Z A #[.int .i64 κ, .int .u8 (i : Int), .int .u64 (v : Int), .string s] → Calls Tryz.prog 26 #[.pointer (some ⟨rd, 0, none⟩)] W fun e w' => e = .returned (.tuple #[pgV pg, .int .i64 (er : Nat)]) ∧ Below W.heap.size W w') := fun W h => by rw [← HR.out, hpg, her]; exact h.rload HI4.out (HG.out m HI4.out)
              have HJo : Hid (∀ W, St W w.heap.size 11 E Z Z A #[.int .i64 κ, .int .u8 (i : Int), .int .u64 (v : Int), .string s] → Calls Tryz.prog 27 #[.slice (some ⟨g5, 0, none⟩) 5 c6, .int .u64 (ev : Int)] W fun e w' => e = .returned (.tuple #[.string js, .bool jb]) ∧ Below W.heap.size W w') := fun W h => by rw [hjs, hjb]; exact h.join P HVD.out HG.out ev HEV.out
              have HJr : Hid (∀ W, St W w.heap.size 11 E Z Z A #[.int .i64 κ, .int .u8 (i : Int), .int .u64 (v : Int), .string s] → Calls Tryz.prog 28 #[.slice (some ⟨g6, 0, none⟩) 5 c8, .int .u64 (ev : Int)] W fun e w' => e = .returned (.tuple #[.string js, .bool jb]) ∧ Below W.heap.size W w') := fun W h => by rw [hjs, hjb]; exact h.rjoin HVR.out HG.out ev HEV.out
              have hq := fun W => eq_rpage pg W
              obtain ⟨se, sb⟩ := pg
              unfold pgV at HLo HLr
              dsimp only at hq
              have hRZ := reads_of TZ.out HVD.out HVR.out HI4.out HP.out HR.out
              have r5 := hRZ.2.2.2.1
              clear hpg her hjs hjb hRZ
              go_wp2_with fail
              refine (HLo.out _ TZ.out).mono ?_
              rintro e w6 ⟨rfl, b6⟩
              have T6 : Hid (St w6 w.heap.size 11 E Z Z A #[.int .i64 κ, .int .u8 (i : Int), .int .u64 (v : Int), .string s]) := TZ.out.below b6
              have B6 : Hid (Below w.heap.size w w6) := below2 BZ.out b6
              have r6 := (reads_of T6.out HVD.out HVR.out HI4.out HP.out HR.out).2.2.2.2
              have l6 := cell_lt r6
              have T6a : Hid (∀ o, St (w6.alloc o) w.heap.size 11 E Z Z A #[.int .i64 κ, .int .u8 (i : Int), .int .u64 (v : Int), .string s]) := fun o => T6.out.below ((Below.refl _ _).alloc (Nat.le_refl _) _)
              have B6a : Hid (∀ o, Below w.heap.size w (w6.alloc o)) := fun o => B6.out.alloc B6.out.size o
              clear b6 r5 HLo
              go_wp2_with fail
              refine (HLr.out _ (T6a.out _)).mono ?_
              rintro e w7 ⟨rfl, b7⟩
              obtain ⟨p0, p1⟩ := pg_cells b7
              have L7 : Hid (w6.heap.size < w7.heap.size) := cell_lt p0
              have T7 : Hid (∀ o, St (w7.alloc o) w.heap.size 11 E Z Z A #[.int .i64 κ, .int .u8 (i : Int), .int .u64 (v : Int), .string s]) := fun o => ((T6a.out _).below b7).below ((Below.refl _ _).alloc (Nat.le_refl _) _)
              have B7 : Hid (Below w.heap.size w w7) := below2 (B6a.out _) b7
              clear b7 r6 l6 HLr
              go_wp2_with fail
              refine (HJo.out _ (T7.out _)).mono ?_
              rintro e w8 ⟨rfl, b8⟩
              obtain ⟨q0, q1⟩ := pg_cells b8
              have b78 : Below w7.heap.size w7 w8 := ((Below.refl _ w7).alloc (Nat.le_refl _) _).trans (b8.mono (by simp))
              have p0' := (b78.cell (p := ⟨w6.heap.size, 0, none⟩) L7.out).trans p0
              have p1' := (b78.cell (p := ⟨w6.heap.size, 1, none⟩) L7.out).trans p1
              have L8 : Hid (w7.heap.size < w8.heap.size) := cell_lt q0
              have L68 : Hid (w6.heap.size < w8.heap.size) := cell_lt p0'
              have T8 : Hid (St w8 w.heap.size 11 E Z Z A #[.int .i64 κ, .int .u8 (i : Int), .int .u64 (v : Int), .string s]) := (T7.out _).below b8
              have B8 : Hid (Below w.heap.size w w8) := below2 B7.out b78
              clear b8 b78 p0 p1 HJo
              go_wp2_with fail
              refine (HJr.out _ T8.out).mono ?_
              rintro e w9 ⟨rfl, b9⟩
              have P0 := (b9.cell (p := ⟨w6.heap.size, 0, none⟩) L68.out).trans p0'
              have P1 := (b9.cell (p := ⟨w6.heap.size, 1, none⟩) L68.out).trans p1'
              have Q0 := (b9.cell (p := ⟨w7.heap.size, 0, none⟩) L8.out).trans q0
              have Q1 := (b9.cell (p := ⟨w7.heap.size, 1, none⟩) L8.out).trans q1
              have T9 : Hid (St w9 w.heap.size 11 E Z Z A #[.int .i64 κ, .int .u8 (i : Int), .int .u64 (v : Int), .string s]) := T8.out.below b9
              have B9 : Hid (Below w.heap.size w w9) := below2 B8.out b9
              clear b9 q0 q1 p0' p1' HJr
              go_wp2
              go_roundg (n - (k + 1))
              case measure => omega
              case rel => exact ⟨k + 1, Z, by omega, rfl, by go_num, T9.out.left _ _, IZ.out, B9.out⟩
theorem walk_says (P : PgDoes) (S : Shown) (w : World) (a0 : Option Addr) (len0 cap0 : Nat) (f0 : Nat → Act11) (m0 : len0 ≤ maxLen) (w0 : 0 < len0 → ∃ b off, a0 = some ⟨b, off, none⟩ ∧ ∀ j, j < len0 → ActAt11 w b (off + j * 4) (f0 j)) (a1 : Int) (w1 : (Lit.int .u64 a1).wf = true) :
    Calls Tryz.prog 4 #[.slice a0 len0 cap0, .int .u64 a1] w fun e w' => e = .returned (.bool true) ∧ Below w.heap.size w w' := by
  have h1 := bounds_u64 w1
  obtain ⟨ev, rfl⟩ := Int.eq_ofNat_of_zero_le h1.1
  have hev : ev < 18446744073709551616 := by have := h1.2; omega
  by_cases h : 60 < len0
  · exact walk_long S w a0 cap0 len0 m0 h ev hev
  · by_cases h0 : 0 < len0
    · obtain ⟨b, off, rfl, hA⟩ := w0 h0
      exact walk_some P S w b off cap0 len0 (by omega) h0 f0 hA ev hev
    · have e : len0 = 0 := by omega
      subst e
      exact walk_nil S w a0 cap0 ev hev


theorem of_laid {W : World} (_ : laidMetH Tryz.prog Rows.pagesActsRow.laid W) : True := trivial
theorem walk (w : World) (a0 : Option Addr) (len0 cap0 : Nat) (f0 : Nat → Act11) (m0 : len0 ≤ maxLen) (w0 : 0 < len0 → ∃ b off, a0 = some ⟨b, off, none⟩ ∧ ∀ j, j < len0 → ActAt11 w b (off + j * 4) (f0 j)) (a1 : Int) (w1 : (Lit.int .u64 a1).wf = true) (_ : True) :
    Calls Tryz.prog 4 #[.slice a0 len0 cap0, .int .u64 a1] w fun e w' => e = .returned (.bool true) ∧ Below w.heap.size w w' := walk_says pg_does (shown11 pg_does) w a0 len0 cap0 f0 m0 w0 a1 w1

theorem own : ownKnob Tryz.prog.godebug = none := by kernel_rfl
theorem laidOut : laidOutB Tryz.prog = true := by kernel_rfl
theorem door_met (os : Os) (args : Array Value) : laidMetH Tryz.prog Rows.pagesActsRow.laid ((World.laidAll Tryz.prog os Rows.pagesActsRow.laid).forCall (fun _ _ => 0) ⟨#[], args, []⟩).memory := by
  rw [MakeChecks.laidMetH_plain _ _ _ (by kernel_rfl)]
  exact laidMet_laidAll _ (by kernel_rfl) (by kernel_rfl)
set_option linter.unusedVariables false in
set_option maxRecDepth 100000 in
theorem lifted (os : Os) (started : os.Started) (H : Type) (enc : TypeId × Value → H) :
    ReturnsInHanded {} Tryz.checked os 4 .any (fun w args => (Rows.pagesActsSpec.pre enc Tryz.prog Tryz.f4 [] false w args ∧ laidMetH Tryz.prog Rows.pagesActsRow.laid w) ∧ sizedMet enc Tryz.prog Tryz.f4 (OpenSpec.ofChange Rows.pagesActsSpec) false w args) (Rows.pagesActsSpec.post enc Tryz.prog Tryz.f4 false true false false) := by
  refine returnsInHanded_of_change_and (C := Tryz.checked) (X := fun w _ => laidMetH Tryz.prog Rows.pagesActsRow.laid w) (fun _ _ _ hh h => h.of_heap hh) own started (by kernel_rfl) Tryz.func4
    (ChangeSpec.witness_shaped (enc := enc) (C := Tryz.checked) (os := os) (X := fun w _ => laidMetH Tryz.prog Rows.pagesActsRow.laid w) false (World.laidAll Tryz.prog os Rows.pagesActsRow.laid) #[.slice none 0 0, .int .u64 0] 8 (World.laidAll_os _ _ _) (World.shaped_of_ZipB (by kernel_rfl) (by kernel_rfl)) (by kernel_rfl) (by kernel_rfl) (by kernel_rfl) (door_met os _)) ?_
  intro W base args ds gs before hval0 hW _ _ hL _
  have hval : ∀ (j : Nat) t v, Tryz.f4.params[j]? = some t → args[j]? = some v → Value.okWide Tryz.prog W .any base t v := hval0
  have hW' := hW
  obtain ⟨p, q, hA0, hV, rfl, hfz, hnd⟩ := hW
  have hA : DataW.TrodAll enc Tryz.prog W 0 (fun _ => true) true Tryz.f4.params.toList args.toList ds p := hA0
  rw [Tryz.params4] at hA hval
  obtain ⟨v0, vs0, d0, ds0, p0, q0, hargs, rfl, rfl, h0, r0⟩ := trodAll_cons hA
  obtain ⟨v1, vs1, d1, ds1, p1, q1, rfl, rfl, rfl, h1, r1⟩ := trodAll_cons r0
  obtain ⟨rfl, rfl, rfl⟩ := trodAll_nil r1
  obtain rfl : args = #[v0, v1] := by cases args; simp_all
  obtain ⟨rfl, rfl⟩ := trodVars_none hV
  obtain ⟨a0, len0, cap0, rfl⟩ := okWide_slice Tryz.underlying36 (hval 0 36 v0 rfl rfl)
  have k0 := h0
  have lt0 : ∀ x ∈ p0, x.block < W.heap.size := by obtain ⟨m, hm⟩ := k0; exact DataW.trod_lt m _ _ _ hm
  obtain ⟨f0, m0, w0⟩ : ∃ f : Nat → Act11, len0 ≤ maxLen ∧ (0 < len0 → ∃ b off, a0 = some ⟨b, off, none⟩ ∧ ∀ j, j < len0 → ActAt11 W b (off + j * 4) (f j)) := by
    obtain ⟨fuel, hf⟩ := h0
    obtain ⟨x, l, c, f, hcs, hm, hA⟩ := open_acts11 hf
    simp [Value.cells] at hcs
    obtain ⟨rfl, rfl, rfl⟩ := hcs
    exact ⟨f, hm, hA⟩
  obtain ⟨a1, rfl, rfl, rfl, w1⟩ := open_int Tryz.underlying22 (hval 1 22 v1 rfl rfl) h1
  clear hA0 hval0
  simp only [List.append_nil] at hW'
  refine (walk W a0 len0 cap0 f0 m0 w0 a1 w1 (of_laid hL)).mono fun e W' ⟨he, hg⟩ => ?_
  subst he
  exact ⟨_, rfl, _, _, _, [], _, [], hW', trodAll_mk1 (shut_bool Tryz.underlying4 _), (trodAll_cons_mk (Below.trod laidOut (by kernel_rfl) (of_decide_eq_true (by kernel_rfl)) k0 hg lt0) (trodAll_cons_mk (shut_int Tryz.underlying22 w1) trodAll_mk0)), rfl, hg.frame _, fun h => by cases h⟩
/-- The row: for every input, where the listed tables read as their initialisers lay them, the law returns true, and each argument reads as it did. -/
theorem row_proved : Rows.PagesActsSaid :=
  OpenClaim.holds_of_wide 4 Tryz.f4 rfl rfl rfl rfl rfl rfl rfl ⟨rfl, rfl, rfl, rfl, rfl⟩ rfl rfl rfl rfl rfl (by kernel_rfl) Tryz.func4 (by kernel_rfl)
    (of_decide_eq_true (by kernel_rfl)) (by unfold Func.isWrapper; first | (rw [if_pos (by decide +kernel)]; kernel_rfl) | (rw [if_neg (by decide +kernel)]; exact ⟨rfl, rfl⟩))
    (fun os started H enc _ => lifted os started H enc)
/-- For every input the law returns true, and each argument reads as it did; what the listed tables hold is tied to the program's text. -/
theorem proved : Rows.PagesActsCardSaid :=
  Claim7.holds_tied_plain_at .later [] [.data, .pinned] true (true, "517d6080fa90421d27ef2ef93c386dcf76469a6045d9f472575822940872c396") false
    row_proved (fun _ h => by cases h) (by kernel_rfl) (fun _ h => by cases h) pagesActs_row_tie rfl ⟨rfl, rfl⟩ (by kernel_rfl) rfl
    (fun f fn hf hfn => by
      obtain rfl : f = 4 := Option.some.inj ((show Tryz.prog.funcNamed "revetment/revetmentlaw11.PagesActs" = some 4 by kernel_rfl).symm.trans hf) |>.symm
      obtain rfl : fn = Tryz.f4 := (Option.some.inj (Tryz.func4.symm.trans hfn)).symm
      exact ⟨by kernel_rfl, fun j t ht => by
        rw [Tryz.params4] at ht
        have hm : t ∈ [36, 22] := by simpa using Array.mem_of_getElem? ht
        have hall : ([36, 22].all fun u => !Tryz.prog.wantsStandIn u) = true := by kernel_rfl
        exact (show Tryz.prog.wantsStandIn t = false by simpa using List.all_eq_true.1 hall t hm)⟩)
    (by kernel_rfl)
end Go.Proofs.YtlcoibfpebggoaaGreatDoor.pagesActs
