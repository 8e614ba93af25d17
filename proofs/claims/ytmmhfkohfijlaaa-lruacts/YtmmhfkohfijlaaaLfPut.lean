/- The walk of Put of the document's own list. -/
import Derived.Test.YtmmhfkohfijlaaaLfPins
import Derived.BigQuiet
namespace Go.Proofs.Ytmmhfkohfijlaaa
open Go.RowKit Lr
attribute [local go_sem] Oper.semAt_some

set_option maxRecDepth 100000 in
set_option maxHeartbeats 2000000 in
theorem rGet14_no {w : World} {rp room : Nat} {vk vp : Value} {l : L} (hin : RefIn w rp room vk vp l) (hn : l.length ≤ 1000) (k : Int) (hy : ¬ idx l k < l.length) :
    Calls Try.prog 23 #[.pointer (some ⟨rp, 0, none⟩), .int .i64 k] w fun r w' => r = .returned (.bool false) ∧ w' = w := by
  have ha := rat14_any hin hn k
  rw [atI_no hy] at ha
  clear hin
  go_enter Try.func23, Try.ntmps23
  go_wp2_with fail
  refine ha.mono ?_
  rintro e w1 ⟨rfl, rfl⟩
  clear ha
  go_wp2
  go_ret
  exact ⟨rfl, rfl⟩

/-- what Put of the document's own list answers and leaves -/
def RPut (w : World) (rp room : Nat) (l : L) (G : Nat → Prop) (k : Int) (r : Ending) (w' : World) : Prop :=
  r = .returned (.tuple #[.int .i64 (putG room l k), .bool (putW room l k), .int .i64 (putE room l k : Nat)]) ∧ RefAt w' rp room (put room l k) (Plus G w.heap.size) ∧ Only G w w'

set_option maxRecDepth 100000 in
set_option maxHeartbeats 4000000 in
theorem rPut14_has {w : World} {rp room : Nat} {l : L} {G : Nat → Prop} (h : RefAt w rp room l G) (hn : l.length ≤ 1000) (k : Int) (hy : idx l k < l.length) :
    Calls Try.prog 22 #[.pointer (some ⟨rp, 0, none⟩), .int .i64 k] w (RPut w rp room l G k) := by
  have hg := rGet14_any h hn k
  have e1 : putG room l k = 0 ∧ putW room l k = false ∧ putE room l k = 0 ∧ put room l k = Lr.get l k := by
    unfold putG putW putE put Lr.get
    rw [if_pos hy, if_pos hy, if_pos hy, if_pos hy, if_pos hy]
    exact ⟨rfl, rfl, rfl, rfl⟩
  have E1 : Hid (putG room l k = 0 ∧ putW room l k = false ∧ putE room l k = 0 ∧ put room l k = Lr.get l k) := e1
  rw [show Lr.has l k = true from decide_eq_true hy] at hg
  obtain ⟨l2, hl2⟩ : ∃ l2, l2 = Lr.get l k := ⟨_, rfl⟩
  rw [← hl2] at hg E1
  clear hl2 h e1 hn
  go_enter Try.func22, Try.ntmps22
  go_wp2_with fail
  refine hg.mono ?_
  rintro e w1 ⟨rfl, hr, ho⟩
  have HR : Hid (RefAt w1 rp room l2 (Plus G w.heap.size)) := hr
  have HO : Hid (Only G w w1) := ho
  clear hg hr ho
  go_wp2
  go_ret3
  refine ⟨?_, ?_, HO.out⟩
  · rw [E1.out.1, E1.out.2.1, E1.out.2.2.1]; rfl
  · rw [E1.out.2.2.2]; exact HR.out

set_option maxRecDepth 100000 in
set_option maxHeartbeats 4000000 in
theorem rPut14_room {w : World} {rp room : Nat} {l : L} {G : Nat → Prop} (h : RefAt w rp room l G) (hn : l.length ≤ 1000) (k : Int) (hy : ¬ idx l k < l.length) (hr : l.length < room) :
    Calls Try.prog 22 #[.pointer (some ⟨rp, 0, none⟩), .int .i64 k] w (RPut w rp room l G k) := by
  obtain ⟨vk, vp, hin, hG, hGk, hGp⟩ := h
  have hg := rGet14_no hin hn k hy
  have e1 : putG room l k = 0 ∧ putW room l k = false ∧ putE room l k = 0 ∧ put room l k = (k, 0) :: l := by
    unfold putG putW putE put
    rw [if_neg hy, if_neg hy, if_neg hy, if_neg hy, if_pos hr, if_pos hr, if_pos hr, if_pos hr]
    exact ⟨rfl, rfl, rfl, rfl⟩
  have E1 : Hid (putG room l k = 0 ∧ putW room l k = false ∧ putE room l k = 0 ∧ put room l k = (k, 0) :: l) := e1
  have c0 := hin.c0
  have c1 := hin.c1
  have HIN : Hid (∀ q, RefIn (w.drewN q) rp room vk vp l) := fun q => hin.only (G := fun _ => False) ⟨rfl, rfl, rfl, Nat.le_refl _, fun _ _ _ => rfl⟩ (fun h => h) (fun _ _ h => h) (fun _ _ h => h)
  obtain ⟨ka, kc, hvk, _, _⟩ := RowI.of_owns (k := .i64) hin.k
  rw [hvk] at c1
  obtain ⟨n, hne⟩ : ∃ n, n = l.length := ⟨_, rfl⟩
  have HN : Hid (l.length ≤ 1000) := hn
  rw [← hne] at c1 hr
  have hr2 : ((n : Nat) : Int) < (room : Nat) := by omega
  have HG : Hid (G rp) := hG
  clear hin hG hGk hGp hvk e1 hne hn hy
  go_enter Try.func22, Try.ntmps22
  go_wp2_with fail
  refine hg.mono ?_
  rintro e w1 ⟨rfl, rfl⟩
  clear hg
  go_wp2_with fail
  go_quiet (fail)
  go_wp2_with fail
  refine (rfront14_any (HIN.out nq) HN.out k 0).mono ?_
  rintro e w2 ⟨rfl, ⟨vk2, vp2, hin2, h5, h6⟩, ho2⟩
  have HR2 : Hid (RefAt w2 rp room ((k, 0) :: l) (Plus G w1.heap.size)) := RefAt.of (w := w1) hin2 HG.out h5 h6
  have HO2 : Hid (Only G w1 w2) := by
    have := ho2.mono (G := G) fun j hj => by rw [show j = rp from hj]; exact HG.out
    exact ⟨this.os, this.tape, this.output, this.size, this.block⟩
  clear hin2 h5 h6 ho2 c0 c1
  go_wp2
  go_ret3
  refine ⟨?_, ?_, HO2.out⟩
  · rw [E1.out.1, E1.out.2.1, E1.out.2.2.1]; rfl
  · rw [E1.out.2.2.2]; exact HR2.out

set_option maxRecDepth 100000 in
set_option maxHeartbeats 4000000 in
theorem rPut14_full {w : World} {rp room : Nat} {l : L} {G : Nat → Prop} (h : RefAt w rp room l G) (hn : l.length ≤ 1000) (k : Int) (hy : ¬ idx l k < l.length) (hr : ¬ l.length < room) :
    Calls Try.prog 22 #[.pointer (some ⟨rp, 0, none⟩), .int .i64 k] w (RPut w rp room l G k) := by
  obtain ⟨vk, vp, hin, hG, hGk, hGp⟩ := h
  have hg := rGet14_no hin hn k hy
  have HY : Hid (¬ idx l k < l.length ∧ ¬ l.length < room) := ⟨hy, hr⟩
  have HIN : Hid (∀ q, RefIn (w.drewN q) rp room vk vp l) := fun q => hin.only (G := fun _ => False) ⟨rfl, rfl, rfl, Nat.le_refl _, fun _ _ _ => rfl⟩ (fun h => h) (fun _ _ h => h) (fun _ _ h => h)
  have c0 := hin.c0
  have c1 := hin.c1
  have c2 := hin.c2
  obtain ⟨ka, kc, hvk, hK, _⟩ := RowI.of_owns (k := .i64) hin.k
  obtain ⟨pa, pc, hvp, hP, _⟩ := RowI.of_owns (k := .i64) hin.p
  have HG : Hid (G rp ∧ (∀ g, vk.ownBlock = some g → G g) ∧ ∀ g, vp.ownBlock = some g → G g) := ⟨hG, hGk, hGp⟩
  rw [hvk] at c1
  rw [hvp] at c2
  obtain ⟨n, hne⟩ : ∃ n, n = l.length := ⟨_, rfl⟩
  have HN : Hid (n = l.length ∧ l.length ≤ 1000) := ⟨hne, hn⟩
  rw [← hne] at c1 c2 hK hP hr hn
  have HK : Hid (RowI .i64 w ka n (fun j => (keys l).getD j 0)) := hK
  have HP : Hid (RowI .i64 w pa n (fun j => (pinsL l).getD j 0)) := hP
  have hr2 : ¬ ((n : Nat) : Int) < (room : Nat) := by omega
  clear hin hG hGk hGp hvk hvp hne hy hr hK hP
  go_enter Try.func22, Try.ntmps22
  go_wp2_with fail
  refine hg.mono ?_
  rintro e w1 ⟨rfl, rfl⟩
  clear hg
  go_wp2_with fail
  go_quiet (fail)
  go_wp2_with fail
  go_loopg [7, 8] n (fun g s7 s8 wr => ∃ (t : Nat) (z : Int), t ≤ n ∧ g = t ∧ s7 = .int .i64 z ∧ z = (t : Int) - 1 ∧ wr = w1.drewN nq ∧ ∀ j, t ≤ j → ∀ h : j < l.length, l[j].2 ≠ 0)
  case atStart => exact ⟨n, _, Nat.le_refl _, rfl, rfl, by omega, rfl, fun j h1 h2 => by have := HN.out.1; omega⟩
  case round =>
    obtain ⟨_, z, ht, rfl, rfl, hz, rfl, hall⟩ := hrel
    obtain ⟨t, htt⟩ : ∃ t, t = gk := ⟨_, rfl⟩
    subst htt
    have HA : Hid (∀ j, t ≤ j → ∀ h : j < l.length, l[j].2 ≠ 0) := hall
    clear hall
    obtain ⟨W, hW⟩ : ∃ W, W = w1.drewN nq := ⟨_, rfl⟩
    have d1 : W.cell? ⟨rp, 1, none⟩ = some (.slice ka n kc) := by rw [hW]; exact c1
    have d2 : W.cell? ⟨rp, 2, none⟩ = some (.slice pa n pc) := by rw [hW]; exact c2
    have HINW : Hid (RefIn W rp room vk vp l) := by rw [hW]; exact HIN.out nq
    have HOW : Hid (Only G w1 W) := by rw [hW]; exact ⟨rfl, rfl, rfl, Nat.le_refl _, fun _ _ _ => rfl⟩
    have HCW : Hid (∀ a : Addr, W.cell? a = w1.cell? a) := by rw [hW]; exact fun _ => rfl
    have HWE : Hid (W = w1.drewN nq) := hW
    rw [← hW]
    clear c0 c1 c2 hW
    cases t with
    | zero =>
      have hz0 : z = -1 := by omega
      have hheld : held l = l.length := held_all fun x hx => by
        obtain ⟨j, hj, rfl⟩ := List.mem_iff_getElem.1 hx
        exact HA.out j (Nat.zero_le _) hj
      have E : Hid (RPut w1 rp room l G k (.returned (.tuple #[.int .i64 0, .bool false, .int .i64 130])) W) := by
        have hh : ¬ held l < l.length := by omega
        refine ⟨?_, ?_, HOW.out⟩
        · unfold putG putW putE
          rw [if_neg HY.out.1, if_neg HY.out.1, if_neg HY.out.1, if_neg HY.out.2, if_neg HY.out.2, if_neg HY.out.2, if_neg hh, if_neg hh, decide_eq_false hh]; rfl
        · unfold put
          rw [if_neg HY.out.1, if_neg HY.out.2, if_neg hh]
          exact ⟨vk, vp, HINW.out, .inl HG.out.1, fun g hg => .inl (HG.out.2.1 g hg), fun g hg => .inl (HG.out.2.2 g hg)⟩
      clear hz
      subst hz0
      go_wp2
      go_ret3
      exact E.out
    | succ t =>
      have hz0 : z = (t : Int) := by omega
      clear hz
      subst hz0
      have hlt : t < n := by omega
      have htl : t < l.length := by rw [← HN.out.1]; exact hlt
      obtain ⟨pb, po, rfl, cp⟩ := HP.out t hlt
      obtain ⟨kb, ko, rfl, ck⟩ := HK.out t hlt
      dsimp only at cp ck
      rw [← HCW.out, pinsL_at l htl, getD_at' htl] at cp
      rw [← HCW.out, keys_at l htl, getD_at' htl] at ck
      obtain ⟨x, hx⟩ : ∃ x, x = l[t] := ⟨_, rfl⟩
      have HX : Hid (∃ h : t < l.length, x = l[t]) := ⟨htl, hx⟩
      rw [← hx] at cp ck
      clear hx htl
      obtain ⟨xk, xq⟩ := x
      dsimp only at cp ck
      by_cases hq : xq = 0
      · have hq2 : ((xq : Int) == 0) = true := by rw [hq]; simp
        obtain ⟨htl, hxe⟩ := HX.out
        have hh := held_at htl (by rw [← hxe]; exact hq) (fun j h1 h2 => HA.out j h1 h2)
        have hh2 : held l < l.length := by omega
        have hol : old l = t := by unfold old; omega
        have htk := rtake14_any HINW.out HN.out.2 htl
        rw [getD_at' htl, ← hxe] at htk
        have HTK : Hid (Calls Try.prog 36 #[.pointer (some ⟨rp, 0, none⟩), .int .i64 (t : Int)] W fun r w' => r = .returned (.int .i64 (xq : Int)) ∧
          (∃ vk' vp', RefIn w' rp room vk' vp' (l.eraseIdx t) ∧ (∀ g, vk'.ownBlock = some g → W.heap.size ≤ g) ∧ ∀ g, vp'.ownBlock = some g → W.heap.size ≤ g) ∧ Only (fun k => k = rp) W w') := htk
        have E : Hid (∀ w', RefAt w' rp room ((k, 0) :: l.eraseIdx t) (Plus G w1.heap.size) → Only G w1 w' → RPut w1 rp room l G k (.returned (.tuple #[.int .i64 xk, .bool true, .int .i64 0])) w') := fun w' h1 h2 => by
          refine ⟨?_, ?_, h2⟩
          · unfold putG putW putE
            rw [if_neg HY.out.1, if_neg HY.out.1, if_neg HY.out.1, if_neg HY.out.2, if_neg HY.out.2, if_neg HY.out.2, if_pos hh2, if_pos hh2, decide_eq_true hh2, hol, getD_at' htl, ← hxe]; rfl
          · unfold put
            rw [if_neg HY.out.1, if_neg HY.out.2, if_pos hh2, hol]
            exact h1
        have HL2 : Hid ((l.eraseIdx t).length ≤ 1000) := Nat.le_trans (List.length_eraseIdx_le _ _) HN.out.2
        clear htl hxe hh hh2 hol htk hq
        go_wp2_with fail
        refine HTK.out.mono ?_
        rintro e w2 ⟨rfl, ⟨vk2, vp2, hin2, _, _⟩, ho2⟩
        have HO2 : Hid (Only (fun j => j = rp) W w2) := ho2
        have hf := rfront14_any hin2 HL2.out k 0
        have HF : Hid (Calls Try.prog 35 #[.pointer (some ⟨rp, 0, none⟩), .int .i64 k, .int .i64 ((0 : Nat) : Int)] w2 fun r w' => r = .returned (.tuple #[]) ∧
          (∃ vk' vp', RefIn w' rp room vk' vp' ((k, 0) :: l.eraseIdx t) ∧ (∀ g, vk'.ownBlock = some g → w2.heap.size ≤ g) ∧ ∀ g, vp'.ownBlock = some g → w2.heap.size ≤ g) ∧ Only (fun k => k = rp) w2 w') := hf
        clear hf hin2 ho2 HTK d1 d2 cp ck
        go_wp2_with fail
        refine HF.out.mono ?_
        rintro e w3 ⟨rfl, ⟨vk3, vp3, hin3, h5, h6⟩, ho3⟩
        have hsz : w1.heap.size ≤ w2.heap.size := Nat.le_trans HOW.out.size HO2.out.size
        have HR3 : Hid (RefAt w3 rp room ((k, 0) :: l.eraseIdx t) (Plus G w1.heap.size)) := RefAt.of (w := w1) hin3 HG.out.1 (fun g hg => Nat.le_trans hsz (h5 g hg)) (fun g hg => Nat.le_trans hsz (h6 g hg))
        have HO3 : Hid (Only G w1 w3) := HOW.out.then ((HO2.out.then ho3).mono fun j hj => by rw [show j = rp from hj]; exact HG.out.1)
        clear hin3 h5 h6 ho3 HF hsz
        go_wp2
        go_ret3
        exact E.out _ HR3.out HO3.out
      · have hq2 : ((xq : Int) == 0) = false := by rw [beq_eq_false_iff_ne]; omega
        have HA2 : Hid (W = w1.drewN nq ∧ ∀ j, t ≤ j → ∀ h : j < l.length, l[j].2 ≠ 0) := ⟨HWE.out, fun j h1 h2 => by
          by_cases e : j = t
          · subst e
            obtain ⟨_, he⟩ := HX.out
            rw [← he]; exact hq
          · exact HA.out j (by omega) h2⟩
        clear hq
        go_wp2
        go_roundg t
        case measure => omega
        case rel => exact ⟨t, _, by omega, rfl, rfl, rfl, HA2.out.1, HA2.out.2⟩

theorem rPut14_any {w : World} {rp room : Nat} {l : L} {G : Nat → Prop} (h : RefAt w rp room l G) (hn : l.length ≤ 1000) (k : Int) :
    Calls Try.prog 22 #[.pointer (some ⟨rp, 0, none⟩), .int .i64 k] w (RPut w rp room l G k) := by
  by_cases hy : idx l k < l.length
  · exact rPut14_has h hn k hy
  · by_cases hr : l.length < room
    · exact rPut14_room h hn k hy hr
    · exact rPut14_full h hn k hy hr
end Go.Proofs.Ytmmhfkohfijlaaa
