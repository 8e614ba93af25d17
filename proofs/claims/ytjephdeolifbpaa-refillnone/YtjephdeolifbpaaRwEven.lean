/- The walks of the program's own test of lengths, and of its May. -/
import Derived.Test.YtjephdeolifbpaaRwMay
namespace Go.Proofs.Ytjephdeolifbpaa
open Go.RowKit

set_option maxRecDepth 100000 in
set_option maxHeartbeats 1000000 in
theorem odd_any (B n cap : Nat) (a : Option Addr) (g : Nat → ByteArray) (hn : 0 < n) (hg : Fits 1048576 n g) (s : ByteArray) (_hs : s.size ≤ 1048576) (w : World) (hB : w.cell? ⟨B, 0, none⟩ = some (.slice a n cap)) (hr : RowS w a n g) :
    Calls Try.prog 54 #[.string s, .pointer (some ⟨B, 0, none⟩)] w fun e w' => e = .returned (.bool (Rf.oddF (g 0).size s)) ∧ w' = w := by
  obtain ⟨b, o, rfl, hc⟩ := hr 0 hn
  rw [Nat.add_zero] at hc
  have h0 := hg 0 hn
  obtain ⟨x, hx⟩ : ∃ x, g 0 = x := ⟨_, rfl⟩
  rw [hx] at hc h0
  rw [hx]
  clear hx
  have E0 : Hid (Rf.oddF x.size s = (decide (4096 < (s.size : Int)) || decide (s.size ≠ x.size))) := rfl
  by_cases h4 : (4096 : Int) < (s.size : Int)
  · have E : Hid (Rf.oddF x.size s = true) := by show _ = _; rw [E0.out, decide_eq_true h4]; rfl
    go_enter Try.func54, Try.ntmps54
    go_wp2
    go_ret
    exact ⟨ret_bool E.out.symm, rfl⟩
  · by_cases hx : s.size = x.size
    · have E : Hid (Rf.oddF x.size s = false) := by show _ = _; rw [E0.out, decide_eq_false h4, hx]; simp
      have hx' : ((s.size : Int) != (x.size : Int)) = false := by rw [bne_eq_false_iff_eq]; omega
      clear hx
      go_enter Try.func54, Try.ntmps54
      go_wp2
      go_ret
      exact ⟨ret_bool E.out.symm, rfl⟩
    · have E : Hid (Rf.oddF x.size s = true) := by show _ = _; rw [E0.out, decide_eq_true hx, Bool.or_true]
      have hx' : ((s.size : Int) != (x.size : Int)) = true := by rw [bne_iff_ne]; omega
      clear hx
      go_enter Try.func54, Try.ntmps54
      go_wp2
      go_ret
      exact ⟨ret_bool E.out.symm, rfl⟩

set_option maxRecDepth 100000 in
set_option maxHeartbeats 1000000 in
theorem IndexFunc_odd (B n cap : Nat) (a : Option Addr) (g : Nat → ByteArray) (hn : n ≤ 1000000) (hg : Fits 1048576 n g) (w : World) (hB : w.cell? ⟨B, 0, none⟩ = some (.slice a n cap)) (hr : RowS w a n g) :
    Calls Try.prog 74 #[.slice a n cap, .func (.func 54) #[] #[.pointer (some ⟨B, 0, none⟩)]] w fun e w' => (∃ z : Int, e = .returned (.int .i64 z) ∧ ((Rf.anyOdd (g 0).size n g = true ∧ 0 ≤ z ∧ z ≤ 1000000) ∨ (Rf.anyOdd (g 0).size n g = false ∧ z = -1))) ∧ w' = w := by
  have hO := fun (h : 0 < n) (j : Nat) (hj : j < n) => odd_any B n cap a g h hg (g j) (hg j hj) w hB hr
  obtain ⟨s0, hs0⟩ : ∃ s0, (g 0).size = s0 := ⟨_, rfl⟩
  rw [hs0] at hO
  rw [hs0]
  clear hs0
  go_enter Try.func74, Try.ntmps74
  go_wp2
  go_loopg [8] n (fun gg i wr => ∃ k : Nat, k ≤ n ∧ gg = n - k ∧ i = .int .i64 k ∧ wr = w ∧ ∀ j, j < k → Rf.oddF s0 (g j) = false)
  case atStart => exact ⟨0, Nat.zero_le _, rfl, rfl, rfl, fun j hj => absurd hj (Nat.not_lt_zero _)⟩
  case round =>
    obtain ⟨k, hk, rfl, rfl, rfl, hh⟩ := hrel
    have HH : Hid (∀ j, j < k → Rf.oddF s0 (g j) = false) := hh
    clear hh
    by_cases hkn : k < n
    · obtain ⟨b, o, rfl, hc⟩ := hr k hkn
      have hOk := hO (by omega) k hkn
      obtain ⟨y, hy⟩ : ∃ y, g k = y := ⟨_, rfl⟩
      rw [hy] at hc hOk
      have HY : Hid (g k = y) := hy
      clear hy
      cases he : Rf.oddF s0 y with
      | true =>
        have E : Hid (Rf.anyOdd s0 n g = true) := Rf.anyOdd_yes hkn (by rw [HY.out]; exact he)
        rw [he] at hOk
        clear he
        go_wp2_with fail
        refine hOk.mono ?_
        rintro e w' ⟨rfl, hw⟩
        subst w'
        go_wp2
        go_ret
        exact ⟨⟨(k : Int), rfl, .inl ⟨E.out, by omega, by omega⟩⟩, rfl⟩
      | false =>
        have E : Hid (∀ j, j < k + 1 → Rf.oddF s0 (g j) = false) := fun j hj => by
          by_cases e : j = k
          · subst e; rw [HY.out]; exact he
          · exact HH.out j (by omega)
        rw [he] at hOk
        clear he
        go_wp2_with fail
        refine hOk.mono ?_
        rintro e w' ⟨rfl, hw⟩
        subst w'
        go_wp2
        go_roundg (n - (k + 1))
        case measure => omega
        case rel => exact ⟨k + 1, by omega, rfl, by go_num, rfl, E.out⟩
    · have hkk : k = n := by omega
      subst hkk
      have E : Hid (Rf.anyOdd s0 k g = false) := Rf.anyOdd_no HH.out
      go_wp2
      go_ret
      exact ⟨⟨-1, rfl, .inr ⟨E.out, rfl⟩⟩, rfl⟩

set_option maxRecDepth 100000 in
set_option maxHeartbeats 1000000 in
theorem ContainsFunc_odd (B n cap : Nat) (a : Option Addr) (g : Nat → ByteArray) (hn : n ≤ 1000000) (hg : Fits 1048576 n g) (w : World) (hB : w.cell? ⟨B, 0, none⟩ = some (.slice a n cap)) (hr : RowS w a n g) :
    Calls Try.prog 53 #[.slice a n cap, .func (.func 54) #[] #[.pointer (some ⟨B, 0, none⟩)]] w fun e w' => e = .returned (.bool (Rf.anyOdd (g 0).size n g)) ∧ w' = w := by
  have h := IndexFunc_odd B n cap a g hn hg w hB hr
  obtain ⟨r, hr⟩ : ∃ r, Rf.anyOdd (g 0).size n g = r := ⟨_, rfl⟩
  rw [hr] at h
  rw [hr]
  clear hr
  go_enter Try.func53, Try.ntmps53
  go_wp2_with fail
  refine h.mono ?_
  rintro e w' ⟨⟨z, rfl, hz⟩, hw⟩
  subst w'
  clear h
  rcases hz with ⟨rfl, h0, h1⟩ | ⟨rfl, rfl⟩
  · have h2 : decide ((0 : Int) ≤ z) = true := decide_eq_true h0
    go_wp2
    go_ret
    exact ⟨rfl, rfl⟩
  · go_wp2
    go_ret
    exact ⟨rfl, rfl⟩

set_option maxRecDepth 100000 in
set_option maxHeartbeats 1000000 in
theorem even_any (n cap : Nat) (a : Option Addr) (g : Nat → ByteArray) (hn : n ≤ 1000000) (hg : Fits 1048576 n g) (w : World) (hr : RowS w a n g) :
    Calls Try.prog 29 #[.slice a n cap] w fun e w' => e = .returned (.bool (!Rf.anyOdd (g 0).size n g)) ∧ Below w.heap.size w w' := by
  have h := fun (W : World) (hb : Below w.heap.size w W) (hc : W.cell? ⟨w.heap.size, 0, none⟩ = some (.slice a n cap)) => ContainsFunc_odd w.heap.size n cap a g hn hg W hc (hr.below hb)
  obtain ⟨r, hr⟩ : ∃ r, Rf.anyOdd (g 0).size n g = r := ⟨_, rfl⟩
  rw [hr] at h
  rw [hr]
  clear hr
  go_enter Try.func29, Try.ntmps29
  go_wp2_with fail
  refine (h _ ((Below.refl _ w).alloc (Nat.le_refl _) _) ?_).mono ?_
  · simp [World.cell?_alloc_mark]
  rintro e w' ⟨rfl, rfl⟩
  cases r with
  | true =>
    go_wp2
    go_ret
    exact ⟨rfl, (Below.refl _ w).alloc (Nat.le_refl _) _⟩
  | false =>
    go_wp2
    go_ret
    exact ⟨rfl, (Below.refl _ w).alloc (Nat.le_refl _) _⟩

set_option maxRecDepth 100000 in
set_option maxHeartbeats 4000000 in
theorem pMay_big (n : Nat) (f : Nat → ByteArray) (hn : n ≤ 2000) (hf : Fits 1048576 n f) (a : Option Addr) (cap : Nat) (_hcap : n ≤ cap) (ln : Nat) (L : Nat → Int) (hln : ln ≤ 1000) (b : Option Addr) (capb : Nat) (hcapb : ln ≤ capb) (w : World) (hr : RowS w a n f) (hl : RowI .i64 w b ln L) :
    Calls Try.prog 16 #[.slice a n cap, .slice b ln capb] w fun e w' => e = .returned (.int .i64 (Rf.mayF n f ln L)) ∧ Below w.heap.size w w' := by
  by_cases hN : n < 4 ∨ 10 < n
  · have E : Hid (Rf.mayF n f ln L = 1) := Rf.mayF_cols hN
    by_cases h4 : (n : Int) < 4
    · clear hN
      go_enter Try.func16, Try.ntmps16
      go_wp2
      go_ret
      exact ⟨ret_int E.out.symm, Below.refl _ _⟩
    · have h10 : (10 : Int) < (n : Int) := by omega
      clear hN
      go_enter Try.func16, Try.ntmps16
      go_wp2
      go_ret
      exact ⟨ret_int E.out.symm, Below.refl _ _⟩
  · have h4 : ¬ (n : Int) < 4 := by omega
    have h10 : ¬ (10 : Int) < (n : Int) := by omega
    have HN : Hid (¬ (n < 4 ∨ 10 < n)) := hN
    have hP := placed_any n (by omega) ln L (by omega) b capb hcapb w hl
    clear hN
    cases hok : Rf.okL n ln L with
    | false =>
      have E : Hid (Rf.mayF n f ln L = 1) := Rf.mayF_lost HN.out hok
      rw [hok] at hP
      clear hok
      go_enter Try.func16, Try.ntmps16
      go_wp2_with fail
      refine hP.mono ?_
      rintro e w' ⟨rfl, hw⟩
      subst w'
      go_wp2
      go_ret
      exact ⟨ret_int E.out.symm, Below.refl _ _⟩
    | true =>
      have hK := kept_any n f hn hf a cap ln L (by omega) b capb w hr hl
      have hlk := Rf.keptF_le f ln L n
      have HFT : Hid (Fits 1048576 (Rf.keptF f ln L n).length (Rf.keptG f ln L n)) := fun j hj => Rf.keptG_fits hf ln L j hj
      rw [hok] at hP
      cases hev : Rf.evenF f ln L n with
      | false =>
        have E : Hid (Rf.mayF n f ln L = 1) := Rf.mayF_size HN.out hok (Rf.even_no hok hev)
        have EV : Hid (Rf.anyOdd (Rf.keptG f ln L n 0).size (Rf.keptF f ln L n).length (Rf.keptG f ln L n) = true) := by
          have : (!Rf.anyOdd (Rf.keptG f ln L n 0).size (Rf.keptF f ln L n).length (Rf.keptG f ln L n)) = false := hev
          show _ = _; rw [Bool.not_eq_false'] at this; exact this
        clear hok hev
        go_enter Try.func16, Try.ntmps16
        go_wp2_with fail
        refine hP.mono ?_
        rintro e w' ⟨rfl, hw⟩
        subst w'
        clear hP
        go_wp2_with fail
        refine hK.mono ?_
        rintro e w1 ⟨⟨gk, ck, rfl, rk, hck⟩, b1⟩
        have hE := even_any _ ck gk _ (by omega) HFT.out w1 rk
        rw [EV.out] at hE
        clear hK hck rk
        go_wp2_with fail
        refine hE.mono ?_
        rintro e w2 ⟨rfl, b2⟩
        have HB : Hid (Below w.heap.size w w2) := below2 b1 b2
        clear hE b1 b2
        go_wp2
        go_ret
        exact ⟨ret_int E.out.symm, HB.out⟩
      | true =>
        have hsz := Rf.even_yes hok hev
        have EV : Hid (Rf.anyOdd (Rf.keptG f ln L n 0).size (Rf.keptF f ln L n).length (Rf.keptG f ln L n) = false) := by
          have : (!Rf.anyOdd (Rf.keptG f ln L n 0).size (Rf.keptF f ln L n).length (Rf.keptG f ln L n)) = true := hev
          show _ = _; rw [Bool.not_eq_true'] at this; exact this
        have EM : Hid ((2 < ln → Rf.mayF n f ln L = 60) ∧ (¬ 2 < ln → Rf.mayF n f ln L = 0)) := ⟨fun h2 => Rf.mayF_more HN.out hok hsz h2, fun h2 => Rf.mayF_ok HN.out hok hsz h2⟩
        clear hok hev hsz
        go_enter Try.func16, Try.ntmps16
        go_wp2_with fail
        refine hP.mono ?_
        rintro e w' ⟨rfl, hw⟩
        subst w'
        clear hP
        go_wp2_with fail
        refine hK.mono ?_
        rintro e w1 ⟨⟨gk, ck, rfl, rk, hck⟩, b1⟩
        have hE := even_any _ ck gk _ (by omega) HFT.out w1 rk
        rw [EV.out] at hE
        clear hK hck rk
        go_wp2_with fail
        refine hE.mono ?_
        rintro e w2 ⟨rfl, b2⟩
        have HB : Hid (Below w.heap.size w w2) := below2 b1 b2
        clear hE b1 b2
        by_cases h2 : (2 : Int) < (ln : Int)
        · have E : Hid (Rf.mayF n f ln L = 60) := EM.out.1 (by omega)
          go_wp2
          go_ret
          exact ⟨ret_int E.out.symm, HB.out⟩
        · have E : Hid (Rf.mayF n f ln L = 0) := EM.out.2 (by omega)
          go_wp2
          go_ret
          exact ⟨ret_int E.out.symm, HB.out⟩
theorem pMay_any (n : Nat) (f : Nat → ByteArray) (hn : n ≤ 1000) (hf : Fits 1048576 n f) (a : Option Addr) (cap : Nat) (hcap : n ≤ cap) (ln : Nat) (L : Nat → Int) (hln : ln ≤ 1000) (b : Option Addr) (capb : Nat) (hcapb : ln ≤ capb) (w : World) (hr : RowS w a n f) (hl : RowI .i64 w b ln L) :
    Calls Try.prog 16 #[.slice a n cap, .slice b ln capb] w fun e w' => e = .returned (.int .i64 (Rf.mayF n f ln L)) ∧ Below w.heap.size w w' := pMay_big n f (by omega) hf a cap hcap ln L hln b capb hcapb w hr hl
end Go.Proofs.Ytjephdeolifbpaa
