import Derived.Test.YtdgkhjgnjfgnlaaGreatMRoF
import Derived.Test.YtdgkhjgnjfgnlaaGreatMRoD
import Derived.Test.YtdgkhjgnjfgnlaaGreatMRpC
namespace Go.Proofs.YtdgkhjgnjfgnlaaGreat
open Go.RowKit
attribute [local go_sem] Oper.semAt_some
theorem St16.heads {w : World} {B c : Nat} {vP vQ vR vS : Value} {C D : Nat → Ro.Col} {f g : Nat → Int} {l : List Thing} (h : St16 w B c vP vQ vR vS C D f g l) (hc : 0 < c) :
  ∃ aP cP aQ cQ aR cR aS cS, vP = .slice (some ⟨aP, 0, none⟩) c cP ∧ vQ = .slice (some ⟨aQ, 0, none⟩) c cQ ∧ vR = .slice (some ⟨aR, 0, none⟩) c cR ∧ vS = .slice (some ⟨aS, 0, none⟩) c cS := by
 have one : ∀ (i : Nat) (t : TypeId) (v : Value) (L : List Value), i < 4 + 2 * c → two16 c c c c c vP vQ vR vS C D f g i = rowT t v L → L.length = c → ∃ a cp, v = .slice (some ⟨a, 0, none⟩) c cp := fun i t v L hi e hl => by
  obtain ⟨F, hF, _⟩ := h.out.look hi
  rw [e] at hF
  obtain ⟨a, cp, e2, _⟩ := rowT_at hF (j := 0) (u := L[0]'(by omega)) (List.getElem?_eq_getElem (by omega))
  exact ⟨a, cp, by rw [e2, hl]⟩
 obtain ⟨aP, cP, e1⟩ := one 0 _ _ _ (by omega) two16_0 (ptrs16_len _ _)
 obtain ⟨aQ, cQ, e2⟩ := one 1 _ _ _ (by omega) two16_1 (ints16_len _ _)
 obtain ⟨aR, cR, e3⟩ := one 2 _ _ _ (by omega) two16_2 (ptrs16_len _ _)
 obtain ⟨aS, cS, e4⟩ := one 3 _ _ _ (by omega) two16_3 (ints16_len _ _)
 exact ⟨aP, cP, aQ, cQ, aR, cR, aS, cS, e1, e2, e3, e4⟩
def PairSt (w : World) (c k r n : Nat) (e : Ending) (w' : World) : Prop :=
 ∃ aP cP aQ cQ aR cR aS cS C D, e = .returned (.tuple #[.agg #[.int .i64 (c : Int), .int .i64 (k : Int), .int .i64 (r : Int), .slice (some ⟨aP, 0, none⟩) c cP, .slice (some ⟨aQ, 0, none⟩) c cQ], .agg #[.int .i64 (c : Int), .int .i64 (k : Int), .int .i64 (r : Int), .slice (some ⟨aR, 0, none⟩) c cR, .slice (some ⟨aS, 0, none⟩) c cS]]) ∧ New16 c n C ∧ New16 c n D ∧ Few16 C 0 ∧ Few16 D 0 ∧ Ro.Alike C D ∧
  St16 w' (w.heap.size + 5) c (.slice (some ⟨aP, 0, none⟩) c cP) (.slice (some ⟨aQ, 0, none⟩) c cQ) (.slice (some ⟨aR, 0, none⟩) c cR) (.slice (some ⟨aS, 0, none⟩) c cS) C D (fun _ => (r : Int)) (fun _ => (r : Int)) [] ∧ Below w.heap.size w w'
theorem pair16_st (c k r : Nat) (hok : Lay.ok (c : Int) (k : Int) (r : Int)) (fewer : Bool) (n : Nat) (hn : n = if fewer then 4 + r * k - 1 else 4 + r * k) (w : World) :
  Calls Tryz.prog 9 #[.agg #[.int .i64 (c : Int), .int .i64 (k : Int), .int .i64 (r : Int)], .bool fewer] w (PairSt w c k r n) := by
 refine (pair16_any c k r hok fewer n hn w).mono ?_
 rintro e w' ⟨⟨da, ca, db, cb, ea, ga, eb, gb, rfl, C, D, hC, hD, hm⟩, hb⟩
 have hs := (St16.of hm).cut
 have hc : 0 < c := by have := hok.1; omega
 obtain ⟨aP, cP, aQ, cQ, aR, cR, aS, cS, e1, e2, e3, e4⟩ := hs.heads hc
 injection e1 with x1 _ x3
 injection e2 with y1 _ y3
 injection e3 with z1 _ z3
 injection e4 with q1 _ q3
 subst x1 x3 y1 y3 z1 z3 q1 q3
 refine ⟨aP, _, aQ, _, aR, _, aS, _, Ro.cut c C, Ro.cut c D, rfl, hC.cut.1, hD.cut.1, hC.cut.2, hD.cut.2, fun i => ?_, hs, hb⟩
 by_cases hi : i < c
 ·obtain ⟨p, hp⟩ := hC i hi
  obtain ⟨q, hq⟩ := hD i hi
  rw [Ro.cut_low _ hi, Ro.cut_low _ hi, hp, hq]; rfl
 ·unfold Ro.cut
  simp [hi]
section
variable {w : World} {B c k r : Nat} {aP cP aQ cQ aR cR aS cS : Nat} {C D : Nat → Ro.Col} {f g : Nat → Int} {l : List Thing}
theorem St16.prWrite (h : St16 w B c (.slice (some ⟨aP, 0, none⟩) c cP) (.slice (some ⟨aQ, 0, none⟩) c cQ) (.slice (some ⟨aR, 0, none⟩) c cR) (.slice (some ⟨aS, 0, none⟩) c cS) C D f g l) (hok : Lay.ok (c : Int) (k : Int) (r : Int)) {m : Nat} (hf : Few16 C m) (hm : m ≤ 1000000) (row off role : Int) (s : ByteArray) :
  Calls Tryz.prog 27 #[.agg #[.int .i64 (c : Int), .int .i64 (k : Int), .int .i64 (r : Int), .slice (some ⟨aP, 0, none⟩) c cP, .slice (some ⟨aQ, 0, none⟩) c cQ], .int .i64 row, .int .i64 off, .int .i64 role, .string s] w fun e w' => e = .returned (.int .i64 (Ro.wrE c k r c c C row off role s : Nat)) ∧ St16 w' B c (.slice (some ⟨aP, 0, none⟩) c cP) (.slice (some ⟨aQ, 0, none⟩) c cQ) (.slice (some ⟨aR, 0, none⟩) c cR) (.slice (some ⟨aS, 0, none⟩) c cS) (Ro.wrC c k r c c C row off role s) D f g l ∧ Below B w w' := by
 have hc10 : c ≤ 10 := by have := hok.1; omega
 refine (pWrite16_any h.pr hok (by omega) (fun i x e j => Nat.le_trans (hf i x e j) hm) row off role s).mono ?_
 rintro e w' ⟨rfl, hmany, ho⟩
 exact ⟨rfl, St16.turnP (fun i => Ro.wrC_ptr c k r c c C row off role s i) hmany, ho.below (fun _ hk => hk.1) h.size⟩
theorem St16.prFlush (h : St16 w B c (.slice (some ⟨aP, 0, none⟩) c cP) (.slice (some ⟨aQ, 0, none⟩) c cQ) (.slice (some ⟨aR, 0, none⟩) c cR) (.slice (some ⟨aS, 0, none⟩) c cS) C D f g l) (hok : Lay.ok (c : Int) (k : Int) (r : Int)) {m : Nat} (hf : Few16 C m) (hm : m ≤ 1000000) :
  Calls Tryz.prog 30 #[.agg #[.int .i64 (c : Int), .int .i64 (k : Int), .int .i64 (r : Int), .slice (some ⟨aP, 0, none⟩) c cP, .slice (some ⟨aQ, 0, none⟩) c cQ]] w fun e w' => e = .returned (.int .i64 (Ro.flushE c k r c c C : Nat)) ∧ St16 w' B c (.slice (some ⟨aP, 0, none⟩) c cP) (.slice (some ⟨aQ, 0, none⟩) c cQ) (.slice (some ⟨aR, 0, none⟩) c cR) (.slice (some ⟨aS, 0, none⟩) c cS) (Ro.flushC c k r c c C) D f g l ∧ Below B w w' := by
 have hc10 : c ≤ 10 := by have := hok.1; omega
 refine (pFlush16_any h.pr hok (by omega) (fun i x e j => Nat.le_trans (hf i x e j) hm)).mono ?_
 rintro e w' ⟨rfl, hmany, ho⟩
 exact ⟨rfl, St16.turnP (fun i => Ro.flushC_ptr c k r c c C i) hmany, ho.below (fun _ hk => hk.1) h.size⟩
theorem St16.cellP (h : St16 w B c (.slice (some ⟨aP, 0, none⟩) c cP) (.slice (some ⟨aQ, 0, none⟩) c cQ) (.slice (some ⟨aR, 0, none⟩) c cR) (.slice (some ⟨aS, 0, none⟩) c cS) C D f g l) {j : Nat} (hj : j < c) : w.cell? ⟨aP, j, none⟩ = some (Ro.ptr (C j)) := by
 rw [(two16_own0 h.out rfl).cellAt j (by omega)]; exact ptrs16_at _ hj
end
set_option maxRecDepth 100000 in
set_option maxHeartbeats 8000000 in
theorem shown16_any (w : World) : Calls Tryz.prog 8 #[] w fun e w' => e = .returned (.bool true) ∧ Below w.heap.size w w' := by
 obtain ⟨c, hc⟩ : ∃ c, c = 4 := ⟨_, rfl⟩
 obtain ⟨k, hk⟩ : ∃ k, k = 1 := ⟨_, rfl⟩
 obtain ⟨r, hr⟩ : ∃ r, r = 1 := ⟨_, rfl⟩
 have hok : Lay.ok (c : Int) (k : Int) (r : Int) := by subst hc hk hr; exact ⟨⟨by decide, by decide⟩, ⟨by decide, by decide⟩, by decide, by decide⟩
 have HG : Hid (∀ W, Calls Tryz.prog 10 #[.int .u8 0, .int .u8 0, .int .u8 0] W fun e w' => e = .returned (.agg #[.int .i64 (c : Int), .int .i64 (k : Int), .int .i64 (r : Int)]) ∧ Below W.heap.size W w') := fun W => by
  have h := geo16_any 0 0 0 (by decide) (by decide) (by decide) W
  rw [hc, hk, hr]
  exact h
 have HPA : Hid (∀ W, Calls Tryz.prog 9 #[.agg #[.int .i64 (c : Int), .int .i64 (k : Int), .int .i64 (r : Int)], .bool false] W (PairSt W c k r (4 + r * k))) := fun W => pair16_st c k r hok false (4 + r * k) rfl W
 obtain ⟨X, hX⟩ : ∃ X, Ro.fillB ⟨#[97]⟩ = X := ⟨_, rfl⟩
 have hX64 : X.size = 64 := by rw [← hX]; exact Ro.fillB_size _
 have HFU : Hid (∀ W, Calls Tryz.prog 24 #[.string ⟨#[97]⟩] W fun e w' => e = .returned (.string X) ∧ w' = W) := fun W => by rw [← hX]; exact full16_any _ (by decide) W
 have hc4 : 4 ≤ c := by omega
 have hc10 : c ≤ 10 := by omega
 have hc0 : 0 < c := by omega
 have hc0i : (0 : Int) < (c : Int) := by omega
 have hr0 : 0 < r := by omega
 have hk0 : 0 < k := by omega
 clear hX hc hk hr
 go_enter Tryz.func8, Tryz.ntmps8
 go_wp2_with fail
 refine (HG.out _).mono ?_
 rintro e w0 ⟨rfl, hb0⟩
 have B0 : Hid (Below w.heap.size w w0) := hb0
 clear hb0
 go_wp2_with fail
 refine (HPA.out _).mono ?_
 rintro e w1 ⟨aP, cP, aQ, cQ, aR, cR, aS, cS, C, D, rfl, hC, _, hF, _, _, hS, hb1⟩
 have B1 : Hid (Below w.heap.size w w1) := B0.out.trans (hb1.mono B0.out.size)
 have HB : Hid (w.heap.size ≤ w0.heap.size + 5) := by have := B0.out.size; show _ ≤ _; omega
 have HF : Hid (Few16 C 0) := hF
 have hH := Ro.Have.new hC
 have hbx : St16 ((w1.alloc (.cells #[.int .i64 (c : Int), .int .i64 (k : Int), .int .i64 (r : Int), .slice (some ⟨aP, 0, none⟩) c cP, .slice (some ⟨aQ, 0, none⟩) c cQ] 30)).alloc (.cells #[.int .i64 (c : Int), .int .i64 (k : Int), .int .i64 (r : Int), .slice (some ⟨aR, 0, none⟩) c cR, .slice (some ⟨aS, 0, none⟩) c cS] 33)) (w0.heap.size + 5) c (.slice (some ⟨aP, 0, none⟩) c cP) (.slice (some ⟨aQ, 0, none⟩) c cQ) (.slice (some ⟨aR, 0, none⟩) c cR) (.slice (some ⟨aS, 0, none⟩) c cS) C D (fun _ => (r : Int)) (fun _ => (r : Int)) ([blkT w1.heap.size 30 #[.int .i64 (c : Int), .int .i64 (k : Int), .int .i64 (r : Int), .slice (some ⟨aP, 0, none⟩) c cP, .slice (some ⟨aQ, 0, none⟩) c cQ], blkT (w1.heap.size + 1) 33 #[.int .i64 (c : Int), .int .i64 (k : Int), .int .i64 (r : Int), .slice (some ⟨aR, 0, none⟩) c cR, .slice (some ⟨aS, 0, none⟩) c cS]]) := by
  have h := (hS.box 30 #[.int .i64 (c : Int), .int .i64 (k : Int), .int .i64 (r : Int), .slice (some ⟨aP, 0, none⟩) c cP, .slice (some ⟨aQ, 0, none⟩) c cQ]).box 33 #[.int .i64 (c : Int), .int .i64 (k : Int), .int .i64 (r : Int), .slice (some ⟨aR, 0, none⟩) c cR, .slice (some ⟨aS, 0, none⟩) c cS]
  rw [World.size_alloc] at h
  exact h
 have HS2 : Hid (St16 ((w1.alloc (.cells #[.int .i64 (c : Int), .int .i64 (k : Int), .int .i64 (r : Int), .slice (some ⟨aP, 0, none⟩) c cP, .slice (some ⟨aQ, 0, none⟩) c cQ] 30)).alloc (.cells #[.int .i64 (c : Int), .int .i64 (k : Int), .int .i64 (r : Int), .slice (some ⟨aR, 0, none⟩) c cR, .slice (some ⟨aS, 0, none⟩) c cS] 33)) (w0.heap.size + 5) c (.slice (some ⟨aP, 0, none⟩) c cP) (.slice (some ⟨aQ, 0, none⟩) c cQ) (.slice (some ⟨aR, 0, none⟩) c cR) (.slice (some ⟨aS, 0, none⟩) c cS) C D (fun _ => (r : Int)) (fun _ => (r : Int)) ([blkT w1.heap.size 30 #[.int .i64 (c : Int), .int .i64 (k : Int), .int .i64 (r : Int), .slice (some ⟨aP, 0, none⟩) c cP, .slice (some ⟨aQ, 0, none⟩) c cQ], blkT (w1.heap.size + 1) 33 #[.int .i64 (c : Int), .int .i64 (k : Int), .int .i64 (r : Int), .slice (some ⟨aR, 0, none⟩) c cR, .slice (some ⟨aS, 0, none⟩) c cS]])) := hbx
 have hl1 : w1.heap.size < ((w1.alloc (.cells #[.int .i64 (c : Int), .int .i64 (k : Int), .int .i64 (r : Int), .slice (some ⟨aP, 0, none⟩) c cP, .slice (some ⟨aQ, 0, none⟩) c cQ] 30)).alloc (.cells #[.int .i64 (c : Int), .int .i64 (k : Int), .int .i64 (r : Int), .slice (some ⟨aR, 0, none⟩) c cR, .slice (some ⟨aS, 0, none⟩) c cS] 33)).heap.size := hbx.lt (i := 0) rfl
 obtain ⟨p, hp⟩ := hC 0 (by omega)
 have hcp := hbx.cellP (j := 0) (by omega)
 rw [hp] at hcp
 simp only [Ro.ptr] at hcp
 have k0 := hbx.cell (i := 0) rfl 0
 have k1 := hbx.cell (i := 0) rfl 1
 have k2 := hbx.cell (i := 0) rfl 2
 have k3 := hbx.cell (i := 0) rfl 3
 have k4 := hbx.cell (i := 0) rfl 4
 obtain ⟨hw0, hw1⟩ := hH.write (k := k) (r := r) (Nat.le_refl _) (row := 0) (off := 0) (role := 1) hr0 hk0 (by omega) hX64
 have HWR : Hid (∀ W, St16 W (w0.heap.size + 5) c (.slice (some ⟨aP, 0, none⟩) c cP) (.slice (some ⟨aQ, 0, none⟩) c cQ) (.slice (some ⟨aR, 0, none⟩) c cR) (.slice (some ⟨aS, 0, none⟩) c cS) C D (fun _ => (r : Int)) (fun _ => (r : Int)) ([blkT w1.heap.size 30 #[.int .i64 (c : Int), .int .i64 (k : Int), .int .i64 (r : Int), .slice (some ⟨aP, 0, none⟩) c cP, .slice (some ⟨aQ, 0, none⟩) c cQ], blkT (w1.heap.size + 1) 33 #[.int .i64 (c : Int), .int .i64 (k : Int), .int .i64 (r : Int), .slice (some ⟨aR, 0, none⟩) c cR, .slice (some ⟨aS, 0, none⟩) c cS]]) → Calls Tryz.prog 27 #[.agg #[.int .i64 (c : Int), .int .i64 (k : Int), .int .i64 (r : Int), .slice (some ⟨aP, 0, none⟩) c cP, .slice (some ⟨aQ, 0, none⟩) c cQ], .int .i64 0, .int .i64 0, .int .i64 1, .string X] W fun e w' => e = .returned (.int .i64 0) ∧ St16 w' (w0.heap.size + 5) c (.slice (some ⟨aP, 0, none⟩) c cP) (.slice (some ⟨aQ, 0, none⟩) c cQ) (.slice (some ⟨aR, 0, none⟩) c cR) (.slice (some ⟨aS, 0, none⟩) c cS) (Ro.wrC c k r c c C 0 0 1 X) D (fun _ => (r : Int)) (fun _ => (r : Int)) ([blkT w1.heap.size 30 #[.int .i64 (c : Int), .int .i64 (k : Int), .int .i64 (r : Int), .slice (some ⟨aP, 0, none⟩) c cP, .slice (some ⟨aQ, 0, none⟩) c cQ], blkT (w1.heap.size + 1) 33 #[.int .i64 (c : Int), .int .i64 (k : Int), .int .i64 (r : Int), .slice (some ⟨aR, 0, none⟩) c cR, .slice (some ⟨aS, 0, none⟩) c cS]]) ∧ Below (w0.heap.size + 5) W w') := fun W hW => by
  have h := hW.prWrite hok HF.out (by omega) 0 0 1 X
  rw [show Ro.wrE c k r c c C 0 0 1 X = 0 from hw0] at h
  exact h
 obtain ⟨C2, hC2⟩ : ∃ C2, Ro.wrC c k r c c C 0 0 1 X = C2 := ⟨_, rfl⟩
 have hw1' : Ro.Have c (4 + r * k) (fun _ _ => Ro.zero64) (Ro.upd2 (fun _ _ => Ro.zero64) (Ro.colN c 0 1) (4 + 0 * k + 0) X.data.toList) (Ro.wrC c k r c c C 0 0 1 X) := hw1
 rw [hC2] at HWR hw1'
 have hp2 : Ro.ptr (C2 0) = .pointer (some ⟨p, 0, none⟩) := by rw [← hC2, Ro.wrC_ptr, hp]; rfl
 have hbf : ∀ i, i < c → (r : Int) ≤ (fun _ : Nat => (r : Int)) i := fun _ _ => Int.le_refl _
 obtain ⟨hs0, hs1⟩ := hw1'.sect hbf (Nat.le_refl _) (row := 0) (off := 0) (i := 1) hr0 hk0 (by omega)
 have hs2 : Ro.secX c k r c c C2 (fun _ => (r : Int)) 0 0 1 = X := by
  refine (show Ro.secX c k r c c C2 (fun _ => (r : Int)) 0 0 1 = _ from hs1).trans ?_
  unfold Ro.upd2 Ro.updL
  rw [if_pos rfl, if_pos rfl]
  exact txt_data X
 have HSE : Hid (∀ W, St16 W (w0.heap.size + 5) c (.slice (some ⟨aP, 0, none⟩) c cP) (.slice (some ⟨aQ, 0, none⟩) c cQ) (.slice (some ⟨aR, 0, none⟩) c cR) (.slice (some ⟨aS, 0, none⟩) c cS) C2 D (fun _ => (r : Int)) (fun _ => (r : Int)) ([blkT w1.heap.size 30 #[.int .i64 (c : Int), .int .i64 (k : Int), .int .i64 (r : Int), .slice (some ⟨aP, 0, none⟩) c cP, .slice (some ⟨aQ, 0, none⟩) c cQ], blkT (w1.heap.size + 1) 33 #[.int .i64 (c : Int), .int .i64 (k : Int), .int .i64 (r : Int), .slice (some ⟨aR, 0, none⟩) c cR, .slice (some ⟨aS, 0, none⟩) c cS]]) → Calls Tryz.prog 16 #[.agg #[.int .i64 (c : Int), .int .i64 (k : Int), .int .i64 (r : Int), .slice (some ⟨aP, 0, none⟩) c cP, .slice (some ⟨aQ, 0, none⟩) c cQ], .int .i64 0, .int .i64 0, .int .i64 1] W fun e w' => e = .returned (.tuple #[.string X, .int .i64 0]) ∧ Below W.heap.size W w') := fun W hW => by
  have h := pSector16_any (dcap := cP) (bcap := cQ) hok (by omega) 0 0 1 W hW.pr.set
  rw [hs2, show Ro.secE c k r c c C2 (fun _ => (r : Int)) 0 0 1 = 0 from hs0] at h
  exact h
 have HMY : Hid (∀ W, St16 W (w0.heap.size + 5) c (.slice (some ⟨aP, 0, none⟩) c cP) (.slice (some ⟨aQ, 0, none⟩) c cQ) (.slice (some ⟨aR, 0, none⟩) c cR) (.slice (some ⟨aS, 0, none⟩) c cS) C2 D (fun _ => (r : Int)) (fun _ => (r : Int)) ([blkT w1.heap.size 30 #[.int .i64 (c : Int), .int .i64 (k : Int), .int .i64 (r : Int), .slice (some ⟨aP, 0, none⟩) c cP, .slice (some ⟨aQ, 0, none⟩) c cQ], blkT (w1.heap.size + 1) 33 #[.int .i64 (c : Int), .int .i64 (k : Int), .int .i64 (r : Int), .slice (some ⟨aR, 0, none⟩) c cR, .slice (some ⟨aS, 0, none⟩) c cS]]) → Calls Tryz.prog 22 #[.agg #[.int .i64 (c : Int), .int .i64 (k : Int), .int .i64 (r : Int), .slice (some ⟨aP, 0, none⟩) c cP, .slice (some ⟨aQ, 0, none⟩) c cQ]] W fun e w' => e = .returned (.bool true) ∧ Below W.heap.size W w') := fun W hW => by
  have h := may16_any (dcap := cP) (bcap := cQ) hok (by omega) W hW.pr.set
  rw [hw1'.may (Nat.le_refl _)] at h
  exact h
 have HS5 : Hid (∀ W, St16 W (w0.heap.size + 5) c (.slice (some ⟨aP, 0, none⟩) c cP) (.slice (some ⟨aQ, 0, none⟩) c cQ) (.slice (some ⟨aR, 0, none⟩) c cR) (.slice (some ⟨aS, 0, none⟩) c cS) C2 D (fun _ => (r : Int)) (fun _ => (r : Int)) ([blkT w1.heap.size 30 #[.int .i64 (c : Int), .int .i64 (k : Int), .int .i64 (r : Int), .slice (some ⟨aP, 0, none⟩) c cP, .slice (some ⟨aQ, 0, none⟩) c cQ], blkT (w1.heap.size + 1) 33 #[.int .i64 (c : Int), .int .i64 (k : Int), .int .i64 (r : Int), .slice (some ⟨aR, 0, none⟩) c cR, .slice (some ⟨aS, 0, none⟩) c cS]]) → W.cell? ⟨w1.heap.size, 0, none⟩ = some (.int .i64 (c : Int)) ∧ W.cell? ⟨w1.heap.size, 1, none⟩ = some (.int .i64 (k : Int)) ∧ W.cell? ⟨w1.heap.size, 2, none⟩ = some (.int .i64 (r : Int)) ∧ W.cell? ⟨w1.heap.size, 3, none⟩ = some (.slice (some ⟨aP, 0, none⟩) c cP) ∧ W.cell? ⟨w1.heap.size, 4, none⟩ = some (.slice (some ⟨aQ, 0, none⟩) c cQ) ∧ W.cell? ⟨aP, 0, none⟩ = some (.pointer (some ⟨p, 0, none⟩))) := fun W hW => ⟨hW.cell (i := 0) rfl 0, hW.cell (i := 0) rfl 1, hW.cell (i := 0) rfl 2, hW.cell (i := 0) rfl 3, hW.cell (i := 0) rfl 4, by rw [hW.cellP (by omega), hp2]⟩
 clear hC hF hS hb1 hH hbx hw0 hw1 hw1' hp hC2 hp2 hbf hs0 hs1 hs2
 go_wp2_with fail
 have hS0 : ((w1.alloc (.cells #[.int .i64 (c : Int), .int .i64 (k : Int), .int .i64 (r : Int), .slice (some ⟨aP, 0, none⟩) c cP, .slice (some ⟨aQ, 0, none⟩) c cQ] 30)).alloc (.cells #[.int .i64 (c : Int), .int .i64 (k : Int), .int .i64 (r : Int), .slice (some ⟨aR, 0, none⟩) c cR, .slice (some ⟨aS, 0, none⟩) c cS] 33)).drew.cell? ⟨w1.heap.size, 0, none⟩ = some (.int .i64 (c : Int)) ∧ ((w1.alloc (.cells #[.int .i64 (c : Int), .int .i64 (k : Int), .int .i64 (r : Int), .slice (some ⟨aP, 0, none⟩) c cP, .slice (some ⟨aQ, 0, none⟩) c cQ] 30)).alloc (.cells #[.int .i64 (c : Int), .int .i64 (k : Int), .int .i64 (r : Int), .slice (some ⟨aR, 0, none⟩) c cR, .slice (some ⟨aS, 0, none⟩) c cS] 33)).drew.cell? ⟨w1.heap.size, 1, none⟩ = some (.int .i64 (k : Int)) ∧ ((w1.alloc (.cells #[.int .i64 (c : Int), .int .i64 (k : Int), .int .i64 (r : Int), .slice (some ⟨aP, 0, none⟩) c cP, .slice (some ⟨aQ, 0, none⟩) c cQ] 30)).alloc (.cells #[.int .i64 (c : Int), .int .i64 (k : Int), .int .i64 (r : Int), .slice (some ⟨aR, 0, none⟩) c cR, .slice (some ⟨aS, 0, none⟩) c cS] 33)).drew.cell? ⟨w1.heap.size, 2, none⟩ = some (.int .i64 (r : Int)) ∧ ((w1.alloc (.cells #[.int .i64 (c : Int), .int .i64 (k : Int), .int .i64 (r : Int), .slice (some ⟨aP, 0, none⟩) c cP, .slice (some ⟨aQ, 0, none⟩) c cQ] 30)).alloc (.cells #[.int .i64 (c : Int), .int .i64 (k : Int), .int .i64 (r : Int), .slice (some ⟨aR, 0, none⟩) c cR, .slice (some ⟨aS, 0, none⟩) c cS] 33)).drew.cell? ⟨w1.heap.size, 3, none⟩ = some (.slice (some ⟨aP, 0, none⟩) c cP) ∧ ((w1.alloc (.cells #[.int .i64 (c : Int), .int .i64 (k : Int), .int .i64 (r : Int), .slice (some ⟨aP, 0, none⟩) c cP, .slice (some ⟨aQ, 0, none⟩) c cQ] 30)).alloc (.cells #[.int .i64 (c : Int), .int .i64 (k : Int), .int .i64 (r : Int), .slice (some ⟨aR, 0, none⟩) c cR, .slice (some ⟨aS, 0, none⟩) c cS] 33)).drew.cell? ⟨w1.heap.size, 4, none⟩ = some (.slice (some ⟨aQ, 0, none⟩) c cQ) ∧ ((w1.alloc (.cells #[.int .i64 (c : Int), .int .i64 (k : Int), .int .i64 (r : Int), .slice (some ⟨aP, 0, none⟩) c cP, .slice (some ⟨aQ, 0, none⟩) c cQ] 30)).alloc (.cells #[.int .i64 (c : Int), .int .i64 (k : Int), .int .i64 (r : Int), .slice (some ⟨aR, 0, none⟩) c cR, .slice (some ⟨aS, 0, none⟩) c cS] 33)).drew.cell? ⟨aP, 0, none⟩ = some (.pointer (some ⟨p, 0, none⟩)) := ⟨k0, k1, k2, k3, k4, hcp⟩
 have HS3 : Hid (St16 ((w1.alloc (.cells #[.int .i64 (c : Int), .int .i64 (k : Int), .int .i64 (r : Int), .slice (some ⟨aP, 0, none⟩) c cP, .slice (some ⟨aQ, 0, none⟩) c cQ] 30)).alloc (.cells #[.int .i64 (c : Int), .int .i64 (k : Int), .int .i64 (r : Int), .slice (some ⟨aR, 0, none⟩) c cR, .slice (some ⟨aS, 0, none⟩) c cS] 33)).drew (w0.heap.size + 5) c (.slice (some ⟨aP, 0, none⟩) c cP) (.slice (some ⟨aQ, 0, none⟩) c cQ) (.slice (some ⟨aR, 0, none⟩) c cR) (.slice (some ⟨aS, 0, none⟩) c cS) C D (fun _ => (r : Int)) (fun _ => (r : Int)) ([blkT w1.heap.size 30 #[.int .i64 (c : Int), .int .i64 (k : Int), .int .i64 (r : Int), .slice (some ⟨aP, 0, none⟩) c cP, .slice (some ⟨aQ, 0, none⟩) c cQ], blkT (w1.heap.size + 1) 33 #[.int .i64 (c : Int), .int .i64 (k : Int), .int .i64 (r : Int), .slice (some ⟨aR, 0, none⟩) c cR, .slice (some ⟨aS, 0, none⟩) c cS]])) := HS2.out.below ((Below.refl _ _).drew)
 go_region_held3 (fun W => W.cell? ⟨w1.heap.size, 0, none⟩ = some (.int .i64 (c : Int)) ∧ W.cell? ⟨w1.heap.size, 1, none⟩ = some (.int .i64 (k : Int)) ∧ W.cell? ⟨w1.heap.size, 2, none⟩ = some (.int .i64 (r : Int)) ∧ W.cell? ⟨w1.heap.size, 3, none⟩ = some (.slice (some ⟨aP, 0, none⟩) c cP) ∧ W.cell? ⟨w1.heap.size, 4, none⟩ = some (.slice (some ⟨aQ, 0, none⟩) c cQ) ∧ W.cell? ⟨aP, 0, none⟩ = some (.pointer (some ⟨p, 0, none⟩))) (first | exact hS0 | assumption) (first | (go_at_call 24; refine (HFU.out _).mono ?_; rintro e w2 ⟨rfl, h2⟩; have h2' := h2.symm; subst h2'; clear h2) | (go_at_call 27; refine (HWR.out _ HS3.out).mono ?_; rintro e w3 ⟨rfl, hs3, hb3⟩; have HS4 : Hid (St16 w3 (w0.heap.size + 5) c (.slice (some ⟨aP, 0, none⟩) c cP) (.slice (some ⟨aQ, 0, none⟩) c cQ) (.slice (some ⟨aR, 0, none⟩) c cR) (.slice (some ⟨aS, 0, none⟩) c cS) C2 D (fun _ => (r : Int)) (fun _ => (r : Int)) ([blkT w1.heap.size 30 #[.int .i64 (c : Int), .int .i64 (k : Int), .int .i64 (r : Int), .slice (some ⟨aP, 0, none⟩) c cP, .slice (some ⟨aQ, 0, none⟩) c cQ], blkT (w1.heap.size + 1) 33 #[.int .i64 (c : Int), .int .i64 (k : Int), .int .i64 (r : Int), .slice (some ⟨aR, 0, none⟩) c cR, .slice (some ⟨aS, 0, none⟩) c cS]])) := hs3; have B3 : Hid (Below (w0.heap.size + 5) ((w1.alloc (.cells #[.int .i64 (c : Int), .int .i64 (k : Int), .int .i64 (r : Int), .slice (some ⟨aP, 0, none⟩) c cP, .slice (some ⟨aQ, 0, none⟩) c cQ] 30)).alloc (.cells #[.int .i64 (c : Int), .int .i64 (k : Int), .int .i64 (r : Int), .slice (some ⟨aR, 0, none⟩) c cR, .slice (some ⟨aS, 0, none⟩) c cS] 33)).drew w3) := hb3; have hs5 := HS5.out _ hs3; clear hs3 hb3))
 all_goals
  have HBW : Hid (Below w.heap.size w w3) := ((((B1.out.alloc B1.out.size _).alloc (Nat.le_trans B1.out.size (by simp)) _).drew).trans (B3.out.mono HB.out))
  obtain ⟨n0, n1, n2, n3, n4, _⟩ := hs5
  have hl3 : w1.heap.size < w3.heap.size := World.block_lt_of_cell? _ _ n0
  clear k0 k1 k2 k3 k4 hcp hS0 hl1
  go_wp2_with fail
  refine (HSE.out _ HS4.out).mono ?_
  rintro e w4 ⟨rfl, hb4⟩
  have HBW4 : Hid (Below w.heap.size w w4) := HBW.out.trans (hb4.mono HBW.out.size)
  have HS6 : Hid (St16 w4 (w0.heap.size + 5) c (.slice (some ⟨aP, 0, none⟩) c cP) (.slice (some ⟨aQ, 0, none⟩) c cQ) (.slice (some ⟨aR, 0, none⟩) c cR) (.slice (some ⟨aS, 0, none⟩) c cS) C2 D (fun _ => (r : Int)) (fun _ => (r : Int)) ([blkT w1.heap.size 30 #[.int .i64 (c : Int), .int .i64 (k : Int), .int .i64 (r : Int), .slice (some ⟨aP, 0, none⟩) c cP, .slice (some ⟨aQ, 0, none⟩) c cQ], blkT (w1.heap.size + 1) 33 #[.int .i64 (c : Int), .int .i64 (k : Int), .int .i64 (r : Int), .slice (some ⟨aR, 0, none⟩) c cR, .slice (some ⟨aS, 0, none⟩) c cS]])) := HS4.out.below hb4
  obtain ⟨j0, j1, j2, j3, j4, _⟩ := HS5.out _ HS6.out
  have hl4 : w1.heap.size < w4.heap.size := World.block_lt_of_cell? _ _ j0
  clear hb4 n0 n1 n2 n3 n4 hl3
  go_wp2_with fail
  refine (HFU.out _).mono ?_
  rintro e w5 ⟨rfl, h5⟩
  subst h5
  go_wp2_with fail
  refine (HMY.out _ HS6.out).mono ?_
  rintro e w6 ⟨rfl, hb6⟩
  have HBW6 : Hid (Below w.heap.size w w6) := HBW4.out.trans (hb6.mono HBW4.out.size)
  clear hb6
  go_wp2
  go_ret
  exact ⟨rfl, HBW6.out⟩
end Go.Proofs.YtdgkhjgnjfgnlaaGreat
