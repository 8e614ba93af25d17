/- How the statements on syndrome begin: the small case, the bound; the document's own Delta. -/
import Derived.Test.YtekpamadimachaaRef05Sum
import Derived.Deep.LoopGhost
namespace Go.Proofs.Ytekpamadimachaa
open Go.RowKit

set_option maxHeartbeats 1000000 in
theorem refDelta_any (s t : ByteArray) (i : Int) (hs : s.size ≤ 1048576) (ht : t.size ≤ 1048576) (w : World) :
    Calls Try.prog 12 #[.string s, .string t, .int .i64 i] w fun e w' => e = .returned (.tuple #[.string (Gfm.xorB s t), .string (Gfm.timesB (Gfm.xorB s t) (Gfm.powI 2 i))]) ∧ Below w.heap.size w w' := by
  have hx : (Gfm.xorB s t).size ≤ 1048576 := by rw [Gfm.xorB_size]; omega
  have hp := Gfm.powI_lt 2 i
  go_enter Try.func12, Try.ntmps12
  go_wp2_with fail
  refine (refXor_any s t hs ht _).mono ?_
  rintro e w' ⟨rfl, hb⟩
  go_wp2_with fail
  refine (refExp_any i _).mono ?_
  rintro e w2 ⟨rfl, hw2⟩
  subst w2
  go_wp2_with fail
  refine (refTimes_any _ _ hx hp _).mono ?_
  rintro e w2 ⟨rfl, hb2⟩
  have HB : Hid (Below w.heap.size w w2) := below2 hb hb2
  clear hb hb2
  go_wp2
  go_ret2
  exact ⟨rfl, HB.out⟩

theorem ones_P : Gfm.addF 2 (two ⟨#[1]⟩ ⟨#[1]⟩) = ⟨#[0]⟩ := by decide +kernel
theorem ones_Q : Gfm.addF 2 (Gfm.qT (two ⟨#[1]⟩ ⟨#[1]⟩)) = ⟨#[3]⟩ := by decide +kernel

set_option maxHeartbeats 1000000 in
theorem shown5_any (w : World) :
    Calls Try.prog 10 #[] w fun e w' => e = .returned (.bool true) ∧ Below w.heap.size w w' := by
  have hf : Fits 1048576 2 (two ⟨#[1]⟩ ⟨#[1]⟩) := Fits.two (by decide) (by decide)
  go_enter Try.func10, Try.ntmps10
  go_wp2_with fail
  refine (P_any 2 (two ⟨#[1]⟩ ⟨#[1]⟩) (by decide) hf _ _ _ (RowS.two w _ _ _)).mono ?_
  rw [ones_P]
  rintro e w1 ⟨rfl, hb1⟩
  have hb1 : Below w.heap.size w w1 := ((Below.refl _ w).alloc (Nat.le_refl _) _).trans (hb1.mono (by simp))
  go_wp2_with fail
  refine (Q_any 2 (two ⟨#[1]⟩ ⟨#[1]⟩) (by decide) hf _ _ _ (RowS.two w1 _ _ _)).mono ?_
  rw [ones_Q]
  rintro e w2 ⟨rfl, hb2⟩
  have HB : Hid (Below w.heap.size w w2) := below2 hb1 (((Below.refl _ w1).alloc (Nat.le_refl _) _).trans (hb2.mono (by simp)))
  clear hb1 hb2
  go_wp2
  go_ret
  exact ⟨rfl, HB.out⟩

/-- what is within the statements' bound -/
def Light5 (n : Nat) (f : Nat → ByteArray) : Prop := n ≤ 40 ∧ Fits 200 n f
theorem Light5.fits {n : Nat} {f : Nat → ByteArray} (h : Light5 n f) : Fits 1048576 n f := fun i hi => Nat.le_trans (h.2 i hi) (by decide)
theorem Light5.le {n : Nat} {f : Nat → ByteArray} (h : Light5 n f) : n ≤ 1048576 := Nat.le_trans h.1 (by decide)
set_option maxRecDepth 100000 in
set_option maxHeartbeats 1000000 in
theorem heavy5_none (w : World) (a : Option Addr) (cap : Nat) : Calls Try.prog 9 #[.slice a 0 cap] w fun e w' => w' = w ∧ e = .returned (.bool false) := by
  go_enter Try.func9, Try.ntmps9
  go_wp2
  go_loopg [3] 0 (fun gg i wr => gg = 0 ∧ i = .int .i64 0 ∧ wr = w)
  case atStart => exact ⟨rfl, rfl, rfl⟩
  case round =>
    obtain ⟨rfl, rfl, rfl⟩ := hrel
    go_wp2
    go_ret
    exact ⟨rfl, rfl⟩
set_option maxRecDepth 100000 in
set_option maxHeartbeats 1000000 in
theorem heavy5_some (w : World) (b off n cap : Nat) (f : Nat → ByteArray) (hr : RowS w (some ⟨b, off, none⟩) n f) (hm : ∀ j, (f j).size ≤ maxLen) (hn : n ≤ maxLen) :
    Calls Try.prog 9 #[.slice (some ⟨b, off, none⟩) n cap] w fun e w' => w' = w ∧ (e = .returned (.bool true) ∨ e = .returned (.bool false) ∧ Light5 n f) := by
  unfold maxLen at hn hm
  by_cases h40 : (40 : Int) < (n : Int)
  · go_enter Try.func9, Try.ntmps9
    go_wp2
    go_ret
    exact ⟨rfl, .inl rfl⟩
  · have hn2 : n ≤ 40 := by omega
    have HR : Hid (RowS w (some ⟨b, off, none⟩) n f) := hr
    clear hr
    go_enter Try.func9, Try.ntmps9
    go_wp2
    go_loopg [3] n (fun gg i wr => ∃ k : Nat, k ≤ n ∧ gg = n - k ∧ i = .int .i64 k ∧ wr = w ∧ Fits 200 k f)
    case atStart => exact ⟨0, Nat.zero_le _, rfl, rfl, rfl, fun j hj => absurd hj (Nat.not_lt_zero _)⟩
    case round =>
      obtain ⟨k, hk, rfl, rfl, rfl, hl⟩ := hrel
      have HL : Hid (Fits 200 k f) := hl
      clear hl
      by_cases hlt : k < n
      · have hc := HR.out.at hlt
        have hs := hm k
        obtain ⟨x, hx⟩ : ∃ x, f k = x := ⟨_, rfl⟩
        rw [hx] at hc hs
        have HX : Hid (f k = x) := hx
        clear hx
        by_cases h1 : (200 : Int) < (x.size : Int)
        · go_wp2
          go_ret
          exact ⟨rfl, .inl rfl⟩
        · go_wp2
          go_roundg (n - (k + 1))
          case measure => omega
          case rel => exact ⟨k + 1, by omega, rfl, by go_num, rfl, fun j hj => by
            by_cases e : j = k
            · subst e; rw [HX.out]; omega
            · exact HL.out j (by omega)⟩
      · have hkn : k = n := by omega
        subst hkn
        go_wp2
        go_ret
        exact ⟨rfl, .inr ⟨rfl, hn2, HL.out⟩⟩
theorem heavy5_any (w : World) (a : Option Addr) (n cap : Nat) (f : Nat → ByteArray) (hr : RowS w a n f) (hm : ∀ j, (f j).size ≤ maxLen) (hn : n ≤ maxLen) :
    Calls Try.prog 9 #[.slice a n cap] w fun e w' => w' = w ∧ (e = .returned (.bool true) ∨ e = .returned (.bool false) ∧ Light5 n f) := by
  rcases hr.place with rfl | ⟨b, o, rfl⟩
  · refine (heavy5_none w a cap).mono ?_
    rintro e w' ⟨rfl, rfl⟩
    exact ⟨rfl, .inr ⟨rfl, by omega, fun j hj => absurd hj (Nat.not_lt_zero _)⟩⟩
  · exact heavy5_some w b o n cap f hr hm hn
theorem IsStrs.cap_le {w : World} {a : Option Addr} {len cap : Nat} {ss : List ByteArray} (h : IsStrs w a len cap ss) : cap ≤ maxLen := by
  rcases h with ⟨_, _, rfl, _⟩ | ⟨_, _, _, hm, _⟩
  · exact Nat.zero_le _
  · exact hm
/-- a list of texts that came in -/
theorem IsStrs.open5 {w : World} {a : Option Addr} {len cap : Nat} {ss : List ByteArray} (h : IsStrs w a len cap ss) : ∃ f : Nat → ByteArray, len ≤ maxLen ∧ len ≤ cap ∧ (∀ j, (f j).size ≤ maxLen) ∧ RowS w a len f := by
  have hc : len ≤ cap := by
    rcases h with ⟨_, rfl, rfl, _⟩ | ⟨_, _, hl, _⟩
    · exact Nat.le_refl _
    · exact hl
  obtain ⟨l, rfl, hm, hs, hr⟩ := h.row
  exact ⟨_, hm, hc, hs, hr⟩

/-- what Sum and Good say of n columns -/
def sP (n : Nat) (f : Nat → ByteArray) : ByteArray := if n < 2 then ByteArray.empty else sumP (n - 2) f
def sQ (n : Nat) (f : Nat → ByteArray) : ByteArray := if n < 2 then ByteArray.empty else sumQ (n - 2) f
def gd (n : Nat) (f : Nat → ByteArray) : Bool := if n < 2 then false else goodF (n - 2) f
section
variable (n : Nat) (f : Nat → ByteArray) (hn : n ≤ 1048576) (hf : Fits 1048576 n f) (a : Option Addr) (cap : Nat) (hcap : n ≤ cap) (w : World) (hr : RowS w a n f)
include hn hf hcap hr
theorem Sum_any : Calls Try.prog 13 #[.slice a n cap] w fun e w' => e = .returned (.tuple #[.string (sP n f), .string (sQ n f)]) ∧ Below w.heap.size w w' := by
  by_cases h : n < 2
  · refine (Sum_few n h a cap w).mono ?_
    rintro e w' ⟨rfl, rfl⟩
    unfold sP sQ; rw [if_pos h, if_pos h]
    exact ⟨rfl, Below.refl _ _⟩
  · obtain ⟨m, rfl⟩ : ∃ m, n = m + 2 := ⟨n - 2, by omega⟩
    unfold sP sQ; rw [if_neg h, if_neg h]
    exact Sum_some m f hn hf a cap hcap w hr
theorem refSum_any : Calls Try.prog 14 #[.slice a n cap] w fun e w' => e = .returned (.tuple #[.string (sP n f), .string (sQ n f)]) ∧ Below w.heap.size w w' := by
  by_cases h : n < 2
  · refine (refSum_few n h a cap w).mono ?_
    rintro e w' ⟨rfl, rfl⟩
    unfold sP sQ; rw [if_pos h, if_pos h]
    exact ⟨rfl, Below.refl _ _⟩
  · obtain ⟨m, rfl⟩ : ∃ m, n = m + 2 := ⟨n - 2, by omega⟩
    unfold sP sQ; rw [if_neg h, if_neg h]
    exact refSum_some m f hn hf a cap hcap w hr
theorem Good_any : Calls Try.prog 19 #[.slice a n cap] w fun e w' => e = .returned (.bool (gd n f)) ∧ Below w.heap.size w w' := by
  by_cases h : n < 2
  · refine (Good_few n h a cap w).mono ?_
    rintro e w' ⟨rfl, rfl⟩
    unfold gd; rw [if_pos h]
    exact ⟨rfl, Below.refl _ _⟩
  · obtain ⟨m, rfl⟩ : ∃ m, n = m + 2 := ⟨n - 2, by omega⟩
    unfold gd; rw [if_neg h]
    exact Good_some m f hn hf a cap hcap w hr
theorem refGood_any : Calls Try.prog 20 #[.slice a n cap] w fun e w' => e = .returned (.bool (gd n f)) ∧ Below w.heap.size w w' := by
  by_cases h : n < 2
  · refine (refGood_few n h a cap w).mono ?_
    rintro e w' ⟨rfl, rfl⟩
    unfold gd; rw [if_pos h]
    exact ⟨rfl, Below.refl _ _⟩
  · obtain ⟨m, rfl⟩ : ∃ m, n = m + 2 := ⟨n - 2, by omega⟩
    unfold gd; rw [if_neg h]
    exact refGood_some m f hn hf a cap hcap w hr
end
end Go.Proofs.Ytekpamadimachaa
