/- The walk of the program's own apart: parts are counted by a map of their places. -/
import Derived.Test.YtmikllmpinciiaaRecKit
import Derived.Test.YtmikllmpinciiaaRkMath
import Derived.Maps.OwnSet
import Derived.Maps.Views
import Derived.WideKeyPair
import Derived.Deep.LoopGhost
namespace Go.Proofs.Ytmikllmpinciiaa
open Go.RowKit Go.Maps Go.WideMaps

theorem key12 : ArrKey Try.prog 49 3 2 := ⟨Try.underlying49, by kernel_rfl, by kernel_rfl, by kernel_rfl⟩
theorem law12 : Keyed Try.prog 49 := Keyed.of_law key12.law
theorem types12 : ∃ m, Try.prog.types.size = m + 1 := by
  have h : 0 < Try.prog.types.size := of_decide_eq_true (by kernel_rfl)
  exact ⟨Try.prog.types.size - 1, by omega⟩
namespace Rc
/-- a place, as a key -/
def keyL (x : Prt) : Lit := .string (keyBytes [.int .i64 x.col, .int .i64 x.off])
/-- the places of the first k -/
def seenD (f : Nat → Prt) : Nat → DataW Unit
  | 0 => .map []
  | k + 1 => (seenD f k).put (keyL (f k)) (.lit (.bool true))
/-- in an int's bounds -/
def Wide (x : Prt) : Prop := (-9223372036854775808 ≤ x.col ∧ x.col ≤ 9223372036854775807) ∧ (-9223372036854775808 ≤ x.off ∧ x.off ≤ 9223372036854775807)
end Rc
theorem wf12 {a : Int} (h : -9223372036854775808 ≤ a ∧ a ≤ 9223372036854775807) : (Lit.int .i64 a).wf = true := WalkArith.wf_i64 (by omega)
theorem keyOf12 {x : Prt} (h : Rc.Wide x) : keyOf Try.prog 49 (.agg #[.int .i64 x.col, .int .i64 x.off]) = some (Rc.keyL x) := keyOf_pair key12 Try.underlying3 types12 (wf12 h.1) (wf12 h.2)
theorem key_ne {x y : Prt} (hx : Rc.Wide x) (hy : Rc.Wide y) (h : Rc.sameB x y = false) : Rc.keyL x ≠ Rc.keyL y := fun e => by
  have h1 := keyOf12 hx
  rw [e] at h1
  have := law12.inj h1 (keyOf12 hy)
  injection this with this
  injection this with this
  injection this with e1 e2
  injection e2 with e2 _
  injection e1 with _ e1
  injection e2 with _ e2
  unfold Rc.sameB at h
  rw [e1, e2] at h
  simp at h
theorem key_eq {x y : Prt} (h : Rc.sameB x y = true) : Rc.keyL x = Rc.keyL y := by
  unfold Rc.sameB at h
  simp only [Bool.and_eq_true, decide_eq_true_eq] at h
  unfold Rc.keyL
  rw [h.1, h.2]
theorem key_lit (x : Prt) : WideAt.IsKeyLit (Rc.keyL x) := trivial
theorem seen_tidy (f : Nat → Prt) : ∀ k, Tidy (Rc.seenD f k)
  | 0 => tidy_empty
  | k + 1 => (seen_tidy f k).put (key_lit _) _
theorem seen_has {f : Nat → Prt} {n : Nat} (hw : ∀ j, j < n → Rc.Wide (f j)) {i : Nat} (hi : i < n) : ∀ {k}, k ≤ n → Maps.has (Rc.seenD f k) (Rc.keyL (f i)) = !(Rc.freshTo f i k)
  | 0, _ => rfl
  | k + 1, hk => by
    unfold Rc.seenD Rc.freshTo
    cases h : Rc.sameB (f k) (f i) with
    | true =>
      rw [key_eq h, has_put_same (seen_tidy f k).isMap (key_lit _)]
      simp
    | false =>
      rw [has_put_other (Ne.symm (key_ne (hw k (by omega)) (hw i hi) h)), seen_has hw hi (by omega)]
      simp
theorem seen_size {f : Nat → Prt} {n : Nat} (hw : ∀ j, j < n → Rc.Wide (f j)) : ∀ {k}, k ≤ n → Maps.size (Rc.seenD f k) ≤ k ∧ decide (Maps.size (Rc.seenD f k) = k) = Rc.apartTo f k
  | 0, _ => ⟨Nat.le_refl _, rfl⟩
  | k + 1, hk => by
    obtain ⟨h1, h2⟩ := seen_size hw (k := k) (by omega)
    have hs := size_put (k := Rc.keyL (f k)) (seen_tidy f k) (.lit (.bool true))
    rw [seen_has hw (by omega) (by omega)] at hs
    unfold Rc.apartTo
    show Maps.size ((Rc.seenD f k).put (Rc.keyL (f k)) (.lit (.bool true))) ≤ k + 1 ∧ decide (Maps.size ((Rc.seenD f k).put (Rc.keyL (f k)) (.lit (.bool true))) = k + 1) = (Rc.apartTo f k && Rc.freshTo f k k)
    rw [hs, ← h2]
    cases hf : Rc.freshTo f k k with
    | true =>
      simp
      omega
    | false =>
      simp
      omega

set_option maxRecDepth 100000 in
set_option maxHeartbeats 4000000 in
theorem apart12_some (b off n cap : Nat) (f : Nat → Prt) (w : World) (hw : ∀ j, j < n → Rc.Wide (f j)) (hn : n ≤ 60) (hp : ∀ j, j < n → PartAt w b (off + j * 3) (f j)) :
    Calls Try.prog 12 #[.slice (some ⟨b, off, none⟩) n cap] w fun e w' => e = .returned (.bool (Rc.apartTo f n)) ∧ Below w.heap.size w w' := by
  have hmm := @run_makeMap Try.prog
  have HP : Hid (∀ j, j < n → PartAt w b (off + j * 3) (f j)) := hp
  have HW : Hid (∀ j, j < n → Rc.Wide (f j)) := hw
  have HN : Hid (n ≤ 60) := hn
  clear hp hw hn
  go_enter Try.func12, Try.ntmps12
  go_wp2
  go_loopg [9] n (fun gg i wr => ∃ k : Nat, k ≤ n ∧ gg = n - k ∧ i = .int .i64 (k : Int) ∧ wr.ownsMap Try.prog 49 (plainElem Try.prog 4) w.heap.size k (Rc.seenD f k) ∧ Below w.heap.size w wr)
  case atStart => exact ⟨0, Nat.zero_le _, rfl, rfl, World.ownsMap_made _ _ _ _, (Below.refl _ w).alloc (Nat.le_refl _) _⟩
  case round =>
  obtain ⟨k, hk, rfl, rfl, hown, hb⟩ := hrel
  have OWN : Hid (wr.ownsMap Try.prog 49 (plainElem Try.prog 4) w.heap.size k (Rc.seenD f k)) := hown
  have HB : Hid (Below w.heap.size w wr) := hb
  clear hown
  by_cases hlt : k < n
  case neg =>
    have hkn : k = n := by omega
    subst hkn
    obtain ⟨s1, s2⟩ := seen_size HW.out (Nat.le_refl k)
    obtain ⟨m, hm⟩ : ∃ m, m = Maps.size (Rc.seenD f k) := ⟨_, rfl⟩
    have HM : Hid (Maps.size (Rc.seenD f k) = m) := hm.symm
    rw [← hm] at s2
    have hsz : ((m : Int) == (k : Int)) = Rc.apartTo f k := by
      rw [← s2, Bool.eq_iff_iff, beq_iff_eq, decide_eq_true_iff]; omega
    obtain ⟨v, hv⟩ : ∃ v, v = Rc.apartTo f k := ⟨_, rfl⟩
    rw [← hv] at hsz
    have HV : Hid (v = Rc.apartTo f k) := hv
    clear hlt hk s1 s2 hm hv hb
    go_wp2_with (at_len; refine wpList_len_own _ rfl _ 48 rfl 49 4 Try.underlying48 _ w.heap.size k (Rc.seenD f k) rfl OWN.out ?_; rw [HM.out])
    go_ret
    refine ⟨?_, HB.out⟩
    rw [← HV.out]
    rfl
  case pos =>
  have hki : (k : Int) < (n : Int) := by omega
  have hn60 := HN.out
  have hpk := (HP.out k hlt).below hb (HP.out k hlt).lt
  have c0 := hpk.c0
  have c1 := hpk.c1
  have c2 := hpk.c2
  have hkey := keyOf12 (HW.out k hlt)
  have hseen : Rc.seenD f (k + 1) = (Rc.seenD f k).put (Rc.keyL (f k)) (.lit (.bool true)) := rfl
  obtain ⟨x, hx⟩ : ∃ x, x = f k := ⟨_, rfl⟩
  obtain ⟨kl, hkl⟩ : ∃ kl, kl = Rc.keyL (f k) := ⟨_, rfl⟩
  rw [← hkl] at hkey hseen
  rw [← hx] at c0 c1 c2 hkey
  obtain ⟨xc, xo, xd⟩ := x
  dsimp only at c0 c1 c2 hkey
  have HKey : Hid (keyOf Try.prog 49 (.agg #[.int .i64 xc, .int .i64 xo]) = some kl) := hkey
  have HSeen : Hid (Rc.seenD f (k + 1) = (Rc.seenD f k).put kl (.lit (.bool true))) := hseen
  have hkm : k < maxLen := by have := HN.out; unfold maxLen; omega
  have HWs : Hid (w.heap.size ≤ wr.heap.size) := hb.size
  clear hpk hx hkl hkey hseen hb
  go_wp2_with (at_mapUpdate; refine wpList_mapUpdate_own _ rfl _ _ _ 48 rfl 49 4 law12 Try.underlying48 _ w.heap.size k (Rc.seenD f k) rfl (OWN.out.alloc _) hkm _ _ kl rfl rfl HKey.out _ [] (plainElem_bool Try.underlying4 true) ?_; intro w3 hown3 hgrow3; have OWN3 : Hid (w3.ownsMap Try.prog 49 (plainElem Try.prog 4) w.heap.size (k + 1) (Rc.seenD f (k + 1))) := (by show World.ownsMap _ _ _ _ _ _ _; rw [HSeen.out]; exact hown3); have HB3 : Hid (Below w.heap.size w w3) := ((HB.out.alloc HWs.out _).grown hgrow3 (by rw [World.size_alloc]; have := HWs.out; omega) (fun j hj => by cases hj; exact Nat.le_refl _)); clear hown3 hgrow3)
  go_roundg (n - (k + 1))
  case measure => omega
  case rel => exact ⟨k + 1, by omega, rfl, by go_num, OWN3.out, HB3.out⟩
theorem apart12_any (a : Option Addr) (n cap : Nat) (f : Nat → Prt) (w : World) (hw : ∀ j, j < n → Rc.Wide (f j)) (n1 : 1 ≤ n) (hn : n ≤ 60) (hp : PartsR w a n f) :
    Calls Try.prog 12 #[.slice a n cap] w fun e w' => e = .returned (.bool (Rc.apartTo f n)) ∧ Below w.heap.size w w' := by
  obtain ⟨b, off, rfl, hp2⟩ := hp.head (by omega)
  exact apart12_some b off n cap f w hw hn hp2
end Go.Proofs.Ytmikllmpinciiaa
