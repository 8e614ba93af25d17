/- For every rows and every region the law IntentBusy returns true: a region with a write under way is dirty, and can't be cleared, until as many are done as were begun. Conditions: the library's table math/bits.deBruijn64tab holds what its initialiser lays (tied to the program's text by the card). -/
import Derived.Test.YtlhgafpidkcmcaaDoorIntDirty
import Derived.Test.YtlhgafpidkcmcaaDoorCards
import Derived.Test.YtlhgafpidkcmcaaDoorTie
import Derived.ProofKit
import Derived.OpenShut
import Derived.Deep.LoopGhost
import Derived.LaidMore
import Derived.Lib.LaidTab
import Derived.Stop.Joined
import Derived.SevenTiedAt
namespace Go.Proofs.YtlhgafpidkcmcaaDoor.intentBusy
open Go.ChangeShapes Go.WideShapes Go.ChangeAt Go.RowKit

set_option maxRecDepth 100000 in
set_option maxHeartbeats 2000000 in
theorem shown_any (w : World) (hT : In.tab w) :
    Calls Tryd.prog 4 #[] w fun e w' => e = .returned (.bool true) ∧ Below w.heap.size w w' := by
  have HT : Hid (In.tab w) := hT
  go_enter Tryd.func4, Tryd.ntmps4
  go_wp2_with fail
  refine (New_yes 20 (by decide) w).mono ?_
  rintro e w1 ⟨rfl, i1, b1⟩
  obtain ⟨b, hb⟩ : ∃ b, b = w.heap.size := ⟨_, rfl⟩
  rw [← hb] at i1 ⊢
  have I1 : Hid (InAt w1 b 20 0 (fun _ => 0)) := i1
  have B1 : Hid (Below w.heap.size w w1) := b1
  have HB : Hid (b = w.heap.size) := hb
  clear i1 b1 hb hT
  go_wp2_with fail
  refine (Start_any I1.out (by decide) (by decide) 5 (by decide) (by decide)).mono ?_
  rw [show (!Nat.testBit 0 (5 / 4)) = true by decide]
  rintro e w2 ⟨rfl, i2, o2⟩
  have I2 : Hid (InAt w2 b 20 2 (In.upd (fun _ => 0) 1 1)) := i2
  have B2 : Hid (Below w.heap.size w w2) := B1.out.trans (o2.below (fun k hk => by rw [hk, HB.out]; exact Nat.le_refl _) B1.out.size)
  clear i2 o2
  go_wp2_with fail
  refine (Stale_any I2.out (by decide) (by decide) 4 (by decide)).mono ?_
  rw [show Nat.testBit 2 (4 / 4) = true by decide]
  rintro e w3 ⟨rfl, b3⟩
  have I3 : Hid (InAt w3 b 20 2 (In.upd (fun _ => 0) 1 1)) := I2.out.below b3
  have B3 : Hid (Below w.heap.size w w3) := B2.out.trans (b3.mono B2.out.size)
  clear b3
  go_wp2_with fail
  refine (Stale_any I3.out (by decide) (by decide) 3 (by decide)).mono ?_
  rw [show Nat.testBit 2 (3 / 4) = false by decide]
  rintro e w4 ⟨rfl, b4⟩
  have I4 : Hid (InAt w4 b 20 2 (In.upd (fun _ => 0) 1 1)) := I3.out.below b4
  have B4 : Hid (Below w.heap.size w w4) := B3.out.trans (b4.mono B3.out.size)
  clear b4
  go_wp2_with fail
  refine (Dirty_any I4.out (by decide) (HT.out.kept B4.out)).mono ?_
  rw [show In.ints 2 = [1] by rw [In.ints, In.bits_two]; rfl, In.bits_two]
  rintro e w5 ⟨⟨a, cap, rfl, hR⟩, b5⟩
  have B5 : Hid (Below w.heap.size w w5) := B4.out.trans (b5.mono B4.out.size)
  have HR : Hid (RowI .i64 w5 a 1 (fun j => [(1 : Int)].getD j 0)) := hR
  clear b5 hR
  simp only [List.length_cons, List.length_nil, Nat.zero_add]
  go_wp2_with fail
  refine (same_ints a _ 1 cap _ (fun j => [(1 : Int)].getD j 0) (by decide) _ (HR.out.below ((Below.refl _ w5).alloc (Nat.le_refl _) _)) (RowI.new .i64 w5 [1] _ _ rfl)).mono ?_
  rintro e w6 ⟨rfl, b6⟩
  have B6 : Hid (Below w.heap.size w w6) := (B5.out.trans ((Below.refl _ w5).alloc B5.out.size _)).trans (b6.mono (by have := B5.out.size; simp; omega))
  clear b6
  go_wp2
  go_ret
  exact ⟨rfl, B6.out⟩

set_option maxRecDepth 100000 in
set_option maxHeartbeats 1000000 in
theorem walk_big (a : Option Addr) (n cap : Nat) (k : Int) (hn : 200 < n) (w : World) (hT : In.tab w) :
    Calls Tryd.prog 3 #[.slice a n cap, .int .u8 k] w fun e w' => e = .returned (.bool true) ∧ Below w.heap.size w w' := by
  have hn' : (200 : Int) < (n : Int) := by omega
  go_enter Tryd.func3, Tryd.ntmps3
  go_wp2_with fail
  refine (shown_any w hT).mono ?_
  rintro e w1 ⟨rfl, b1⟩
  go_wp2
  go_ret
  exact ⟨rfl, b1⟩

/-- what holds of the map while rows are begun -/
def At (w0 wr : World) (b r j x d : Nat) (u : Nat → Nat) : Prop :=
  InAt wr b 256 d u ∧ d < 18446744073709551616 ∧ (∀ q, u q ≤ j) ∧ u r = x ∧ d.testBit r = decide (0 < x) ∧ Below w0.heap.size w0 wr
theorem At.step {w0 wr w' : World} {b r j x d : Nat} {u : Nat → Nat} (h : At w0 wr b r j x d u) (hb : w0.heap.size ≤ b) {q : Nat} (hq : q < 64)
    (i : InAt w' b 256 (In.setB d q) (In.upd u q (u q + 1))) (o : Only (fun k => k = b) wr w') : At w0 w' b r (j + 1) (if q = r then x + 1 else x) (In.setB d q) (In.upd u q (u q + 1)) := by
  obtain ⟨_, h2, h3, h4, h5, h6⟩ := h
  refine ⟨i, In.setB_lt h2 hq, fun p => ?_, ?_, ?_, h6.trans (o.below (fun k hk => by rw [hk]; exact hb) h6.size)⟩
  · by_cases e : p = q
    · subst e; rw [In.upd_same]; exact Nat.succ_le_succ (h3 p)
    · rw [In.upd_other _ _ e]; exact Nat.le_succ_of_le (h3 p)
  · by_cases e : q = r
    · subst e; rw [In.upd_same, if_pos rfl, h4]
    · rw [In.upd_other _ _ (Ne.symm e), if_neg e, h4]
  · by_cases e : q = r
    · subst e; rw [In.setB_self, if_pos rfl]; simp
    · rw [In.setB_other _ (Ne.symm e), if_neg e, h5]

set_option maxRecDepth 100000 in
set_option maxHeartbeats 4000000 in
theorem walk_small (l : List Nat) (hl : l.length ≤ 200) (hl8 : ∀ j, l.getD j 0 < 256) (a : Option Addr) (cap k : Nat) (hk : k < 256) (w : World) (hT : In.tab w) (hr : RowI .u8 w a l.length (fun j => ((l.getD j 0 : Nat) : Int))) :
    Calls Tryd.prog 3 #[.slice a l.length cap, .int .u8 (k : Int)] w fun e w' => e = .returned (.bool true) ∧ Below w.heap.size w w' := by
  obtain ⟨n, hn⟩ : ∃ n, n = l.length := ⟨_, rfl⟩
  rw [← hn] at hl hr ⊢
  obtain ⟨r, hr0⟩ : ∃ r, r = k % 64 := ⟨_, rfl⟩
  have hkr : (k : Int) % 64 = (r : Int) := by omega
  have HR64 : Hid (r < 64) := by show _ < _; omega
  have HR : Hid (RowI .u8 w a n (fun j => ((l.getD j 0 : Nat) : Int))) := hr
  have HL8 : Hid (∀ j, l.getD j 0 < 256) := hl8
  have hn' : ¬ (200 : Int) < (n : Int) := by omega
  clear hn hr0 hr hl8
  go_enter Tryd.func3, Tryd.ntmps3
  go_wp2_with fail
  refine (shown_any w hT).mono ?_
  rintro e w1 ⟨rfl, b1⟩
  have B1 : Hid (Below w.heap.size w w1) := b1
  clear b1
  go_wp2_with fail
  refine (New_yes 256 (by decide) w1).mono ?_
  rintro e w2 ⟨rfl, i2, b2⟩
  have B2 : Hid (Below w.heap.size w w2) := below2 B1.out b2
  obtain ⟨b, hb⟩ : ∃ b, b = w1.heap.size := ⟨_, rfl⟩
  rw [← hb] at i2 ⊢
  have HB : Hid (w.heap.size ≤ b) := by show _ ≤ _; rw [hb]; exact B1.out.size
  have I2 : Hid (InAt w2 b 256 0 (fun _ => 0)) := i2
  clear i2 b2 hb
  go_wp2_with fail
  simp only [hkr]
  go_loopg [7, 8] n (fun g c i wr => ∃ (j x d : Nat) (u : Nat → Nat), j ≤ n ∧ g = n - j ∧ c = .int .i64 (x : Int) ∧ i = .int .i64 (j : Int) ∧ At w wr b r j x d u)
  case atStart => exact ⟨0, 0, 0, _, Nat.zero_le _, rfl, rfl, rfl, I2.out, by decide, fun _ => Nat.le_refl _, rfl, by simp, B2.out⟩
  case round =>
    obtain ⟨j, x, d, u, hj, rfl, rfl, rfl, hat⟩ := hrel
    have HAT : Hid (At w wr b r j x d u) := hat
    have hxj : x ≤ j := by have := hat.2.2.1 r; rw [hat.2.2.2.1] at this; exact this
    clear hat
    by_cases hlt : j < n
    · obtain ⟨b1, o1, rfl, hc⟩ := (HR.out.below HAT.out.2.2.2.2.2) j hlt
      have hy8 := HL8.out j
      obtain ⟨y, hy⟩ : ∃ y, y = l.getD j 0 := ⟨_, rfl⟩
      replace hc : wr.cell? ⟨b1, o1 + j, none⟩ = some (.int .u8 ((l.getD j 0 : Nat) : Int)) := hc
      rw [← hy] at hc hy8
      have HY : Hid (y = l.getD j 0) := hy
      clear hy
      go_wp2_with fail
      refine (Start_any HAT.out.1 HAT.out.2.1 (by decide) y hy8 (by have := HAT.out.2.2.1 (y / 4); omega)).mono ?_
      obtain ⟨t, ht⟩ : ∃ t, t = (!d.testBit (y / 4)) := ⟨_, rfl⟩
      rw [← ht]
      clear ht
      rintro e w3 ⟨rfl, i3, o3⟩
      have A3 : Hid (At w w3 b r (j + 1) (if y / 4 = r then x + 1 else x) (In.setB d (y / 4)) (In.upd u (y / 4) (u (y / 4) + 1))) := HAT.out.step HB.out (by omega) i3 o3
      obtain ⟨b3, o3', e3, hc3⟩ := (HR.out.below A3.out.2.2.2.2.2) j hlt
      cases e3
      replace hc3 : w3.cell? ⟨b1, o1 + j, none⟩ = some (.int .u8 ((l.getD j 0 : Nat) : Int)) := hc3
      rw [← HY.out] at hc3
      clear i3 o3 hc
      go_wp2_with fail
      refine (Stale_any A3.out.1 A3.out.2.1 (by decide) y hy8).mono ?_
      rw [In.setB_self]
      rintro e w4 ⟨rfl, b4⟩
      have A4 : Hid (At w w4 b r (j + 1) (if y / 4 = r then x + 1 else x) (In.setB d (y / 4)) (In.upd u (y / 4) (u (y / 4) + 1))) := ⟨A3.out.1.below b4, A3.out.2.1, A3.out.2.2.1, A3.out.2.2.2.1, A3.out.2.2.2.2.1, A3.out.2.2.2.2.2.trans (b4.mono A3.out.2.2.2.2.2.size)⟩
      have hc4 := (b4.cell (p := ⟨b1, o1 + j, none⟩) (World.block_lt_of_cell? w3 _ hc3)).trans hc3
      clear b4 hc3
      by_cases hq : y / 4 = r
      · have hqi : ((y : Int) / 4 == (r : Int)) = true := by rw [beq_iff_eq]; omega
        have A5 : Hid (At w w4 b r (j + 1) (x + 1) (In.setB d (y / 4)) (In.upd u (y / 4) (u (y / 4) + 1))) := by have h := A4.out; rw [if_pos hq] at h; exact h
        clear hq
        go_wp2
        go_roundg (n - (j + 1))
        case rel => exact ⟨j + 1, x + 1, _, _, by omega, rfl, by first | rfl | go_num, by go_num, A5.out⟩
        case measure => omega
      · have hqi : ((y : Int) / 4 == (r : Int)) = false := by rw [beq_eq_false_iff_ne]; omega
        have A5 : Hid (At w w4 b r (j + 1) x (In.setB d (y / 4)) (In.upd u (y / 4) (u (y / 4) + 1))) := by have h := A4.out; rw [if_neg hq] at h; exact h
        clear hq
        go_wp2
        go_roundg (n - (j + 1))
        case rel => exact ⟨j + 1, x, _, _, by omega, rfl, by first | rfl | go_num, by go_num, A5.out⟩
        case measure => omega
    · obtain ⟨r4, hr4⟩ : ∃ r4, r4 = r * 4 := ⟨_, rfl⟩
      have e4 : (r : Int) * 4 = (r4 : Int) := by omega
      have R4 : Hid (r4 / 4 = r ∧ r4 + 4 ≤ 256 ∧ r4 % 4 = 0) := by show _ ∧ _ ∧ _; have := HR64.out; omega
      have HD : Hid (d < 18446744073709551616) := HAT.out.2.1
      have HBIT : Hid (d.testBit r = decide (0 < x)) := HAT.out.2.2.2.2.1
      clear hr4
      go_wp2
      go_loopg [11] x (fun g i wz => ∃ (q : Nat) (u' : Nat → Nat), q ≤ x ∧ g = x - q ∧ i = .int .i64 (q : Int) ∧ InAt wz b 256 d u' ∧ u' r = x - q ∧ Below w.heap.size w wz)
      case atStart => exact ⟨0, u, Nat.zero_le _, rfl, rfl, HAT.out.1, HAT.out.2.2.2.1, HAT.out.2.2.2.2.2⟩
      case round =>
        obtain ⟨q, u', hqx, rfl, rfl, iz, hu, bz⟩ := hrel
        by_cases hlt2 : q < x
        · have IZ : Hid (InAt wr b 256 d u') := iz
          have BZ : Hid (Below w.heap.size w wr) := bz
          obtain ⟨y, hy⟩ : ∃ y, u' r = y + 1 := ⟨x - q - 1, by omega⟩
          have HY : Hid (u' r = y + 1) := hy
          have hyq : y = x - (q + 1) := by omega
          obtain ⟨s, hs⟩ : ∃ s, s = r4 + q % 4 := ⟨_, rfl⟩
          have es : (r4 : Int) + (q : Int) % 4 = (s : Int) := by omega
          have HS : Hid (s / 4 = r ∧ s < 256) := by show _ ∧ _; have := R4.out; omega
          clear iz bz hy hu hs
          go_wp2_with fail
          refine (Clear_busy IZ.out (by decide) r (by have := HR64.out; omega) (by rw [HY.out]; omega)).mono ?_
          rintro e w' ⟨rfl, rfl⟩
          go_wp2_with fail
          refine (Stale_any IZ.out HD.out (by decide) r4 (by have := R4.out.2.1; omega)).mono ?_
          rw [R4.out.1, show d.testBit r = true by rw [HBIT.out]; simp; omega]
          rintro e w5 ⟨rfl, b5⟩
          have I5 : Hid (InAt w5 b 256 d u') := IZ.out.below b5
          have B5 : Hid (Below w.heap.size w w5) := BZ.out.trans (b5.mono BZ.out.size)
          clear b5
          go_wp2_with fail
          refine (Done_yes I5.out (by decide) s HS.out.2 y (by rw [HS.out.1]; exact HY.out) (by omega)).mono ?_
          rw [HS.out.1]
          rintro e w6 ⟨rfl, i6, o6⟩
          have I6 : Hid (InAt w6 b 256 d (In.upd u' r y)) := i6
          have B6 : Hid (Below w.heap.size w w6) := B5.out.trans (o6.below (fun k hk => by rw [hk]; exact HB.out) B5.out.size)
          clear i6 o6
          go_wp2
          go_roundg (x - (q + 1))
          case measure => omega
          case rel => exact ⟨q + 1, _, by omega, rfl, by go_num, I6.out, by rw [In.upd_same]; exact hyq, B6.out⟩
        · have IZ : Hid (InAt wr b 256 d u') := iz
          have BZ : Hid (Below w.heap.size w wr) := bz
          have HU : Hid (u' r = 0) := by show _ = _; rw [hu]; omega
          have hq2 : ¬ (q : Int) < (x : Int) := by omega
          clear iz bz hu hlt2
          by_cases h0 : 0 < x
          · have HX : Hid (0 < x) := h0
            have hx0 : (0 : Int) < (x : Int) := by have := HX.out; omega
            have HB2 : Hid (d.testBit r = true) := by show _ = _; rw [HBIT.out]; have := HX.out; simp [this]
            clear h0
            go_wp2_with fail
            refine (Done_none IZ.out (by decide) r4 (by have := R4.out.2.1; omega) (by rw [R4.out.1]; exact HU.out)).mono ?_
            rintro e w5 ⟨rfl, b5⟩
            have I5 : Hid (InAt w5 b 256 d u') := IZ.out.below b5
            have B5 : Hid (Below w.heap.size w w5) := BZ.out.trans (b5.mono BZ.out.size)
            clear b5
            go_wp2_with fail
            refine (Stale_any I5.out HD.out (by decide) r4 (by have := R4.out.2.1; omega)).mono ?_
            rw [R4.out.1, HB2.out]
            rintro e w6 ⟨rfl, b6⟩
            have I6 : Hid (InAt w6 b 256 d u') := I5.out.below b6
            have B6 : Hid (Below w.heap.size w w6) := B5.out.trans (b6.mono B5.out.size)
            clear b6
            go_wp2_with fail
            refine (Clear_idle I6.out HD.out (by decide) r (by have := HR64.out; omega) HU.out).mono ?_
            rintro e w7 ⟨rfl, i7, o7⟩
            have I7 : Hid (InAt w7 b 256 (In.clrB d r) u') := i7
            have B7 : Hid (Below w.heap.size w w7) := B6.out.trans (o7.below (fun k hk => by rw [hk]; exact HB.out) B6.out.size)
            clear i7 o7
            go_wp2_with fail
            refine (Stale_any I7.out (In.clrB_lt r HD.out) (by decide) r4 (by have := R4.out.2.1; omega)).mono ?_
            rw [R4.out.1, In.clrB_self d HR64.out]
            rintro e w8 ⟨rfl, b8⟩
            have B8 : Hid (Below w.heap.size w w8) := B7.out.trans (b8.mono B7.out.size)
            clear b8
            go_wp2
            go_ret
            exact ⟨rfl, B8.out⟩
          · have HX : Hid (x = 0) := by show _ = _; omega
            have hx0 : ¬ (0 : Int) < (x : Int) := by have := HX.out; omega
            have HB2 : Hid (d.testBit r = false) := by show _ = _; rw [HBIT.out]; rw [HX.out]; rfl
            clear h0
            go_wp2_with fail
            refine (Done_none IZ.out (by decide) r4 (by have := R4.out.2.1; omega) (by rw [R4.out.1]; exact HU.out)).mono ?_
            rintro e w5 ⟨rfl, b5⟩
            have I5 : Hid (InAt w5 b 256 d u') := IZ.out.below b5
            have B5 : Hid (Below w.heap.size w w5) := BZ.out.trans (b5.mono BZ.out.size)
            clear b5
            go_wp2_with fail
            refine (Stale_any I5.out HD.out (by decide) r4 (by have := R4.out.2.1; omega)).mono ?_
            rw [R4.out.1, HB2.out]
            rintro e w6 ⟨rfl, b6⟩
            have I6 : Hid (InAt w6 b 256 d u') := I5.out.below b6
            have B6 : Hid (Below w.heap.size w w6) := B5.out.trans (b6.mono B5.out.size)
            clear b6
            go_wp2_with fail
            refine (Clear_idle I6.out HD.out (by decide) r (by have := HR64.out; omega) HU.out).mono ?_
            rintro e w7 ⟨rfl, i7, o7⟩
            have I7 : Hid (InAt w7 b 256 (In.clrB d r) u') := i7
            have B7 : Hid (Below w.heap.size w w7) := B6.out.trans (o7.below (fun k hk => by rw [hk]; exact HB.out) B6.out.size)
            clear i7 o7
            go_wp2_with fail
            refine (Stale_any I7.out (In.clrB_lt r HD.out) (by decide) r4 (by have := R4.out.2.1; omega)).mono ?_
            rw [R4.out.1, In.clrB_self d HR64.out]
            rintro e w8 ⟨rfl, b8⟩
            have B8 : Hid (Below w.heap.size w w8) := B7.out.trans (b8.mono B7.out.size)
            clear b8
            go_wp2
            go_ret
            exact ⟨rfl, B8.out⟩

theorem walk (w : World) (a0 : Option Addr) (len0 cap0 : Nat) (z0 : List Int) (w0 : IsRow .u8 w a0 len0 cap0 z0) (a1 : Int) (w1 : (Lit.int .u8 a1).wf = true) (hT : In.tab w) :
    Calls Tryd.prog 3 #[.slice a0 len0 cap0, .int .u8 a1] w fun e w' => e = .returned (.bool true) ∧ Below w.heap.size w w' := by
  by_cases h : 200 < len0
  · exact walk_big a0 len0 cap0 a1 h w hT
  · obtain ⟨l, hll, hm, h8, hri⟩ := w0.rowN 256 (by decide) (fun y hy => by have := bounds_u8 hy; omega)
    subst hll
    have b1 := bounds_u8 w1
    obtain ⟨k, rfl⟩ := Int.eq_ofNat_of_zero_le b1.1
    exact walk_small l (by omega) h8 a0 cap0 k (by omega) w hT hri

theorem gTab : Tryd.prog.globalNamed "math/bits.deBruijn64tab" = some 0 := by kernel_rfl
theorem tTab : (Tryd.prog.globals[0]?).map (·.type) = some 50 := by kernel_rfl
theorem of_laid {W : World} (h : laidMetH Tryd.prog Rows.intentBusyRow.laid W) : In.tab W := by
  have h2 : laidMetH Tryd.prog [("math/bits.deBruijn64tab", Lib.tabData .u8 (Lib.deBruijn64tab.map fun (n : Nat) => (n : Int)))] W := h
  rw [MakeChecks.laidMetH_plain _ _ _ (by kernel_rfl)] at h2
  have h3 := Lib.tabIs_of_head gTab tTab Tryd.underlying50 Tryd.underlying5 (by kernel_rfl) (by kernel_rfl) h2
  intro j hj
  have h4 := h3.cell gTab j (by rw [List.length_map]; exact hj)
  rw [h4, natCast_getD]

theorem own : ownKnob Tryd.prog.godebug = none := by kernel_rfl
theorem laidOut : laidOutB Tryd.prog = true := by kernel_rfl
theorem door_met (os : Os) (args : Array Value) : laidMetH Tryd.prog Rows.intentBusyRow.laid ((World.doorLaid Tryd.prog 14 os).forCall (fun _ _ => 0) ⟨#[], args, []⟩).memory :=
  laidMetH_of_parts3 (fuel := 8) (laidMet_of_run' 8 (by kernel_rfl) (by kernel_rfl)) (by kernel_rfl) (by kernel_rfl)
set_option linter.unusedVariables false in
set_option maxRecDepth 100000 in
theorem lifted (os : Os) (started : os.Started) (H : Type) (enc : TypeId × Value → H) :
    ReturnsInHanded {} Tryd.checked os 3 .any (fun w args => (Rows.intentBusySpec.pre enc Tryd.prog Tryd.f3 [] false w args ∧ laidMetH Tryd.prog Rows.intentBusyRow.laid w) ∧ sizedMet enc Tryd.prog Tryd.f3 (OpenSpec.ofChange Rows.intentBusySpec) false w args) (Rows.intentBusySpec.post enc Tryd.prog Tryd.f3 false true false false) := by
  refine returnsInHanded_of_change_and (C := Tryd.checked) (X := fun w _ => laidMetH Tryd.prog Rows.intentBusyRow.laid w) (fun _ _ _ hh h => h.of_heap hh) own started (by kernel_rfl) Tryd.func3
    (ChangeSpec.witness_shaped (enc := enc) (C := Tryd.checked) (os := os) (X := fun w _ => laidMetH Tryd.prog Rows.intentBusyRow.laid w) false (World.doorLaid Tryd.prog 14 os) #[.slice none 0 0, .int .u8 0] 8 rfl (World.shaped_of_RefB (by kernel_rfl) (by kernel_rfl)) (by kernel_rfl) (by kernel_rfl) (by kernel_rfl) (door_met os _)) ?_
  intro W base args ds gs before hval0 hW _ _ hL _
  have hval : ∀ (j : Nat) t v, Tryd.f3.params[j]? = some t → args[j]? = some v → Value.okWide Tryd.prog W .any base t v := hval0
  have hW' := hW
  obtain ⟨p, q, hA0, hV, rfl, hfz, hnd⟩ := hW
  have hA : DataW.TrodAll enc Tryd.prog W 0 (fun _ => true) true Tryd.f3.params.toList args.toList ds p := hA0
  rw [Tryd.params3] at hA hval
  obtain ⟨v0, vs0, d0, ds0, p0, q0, hargs, rfl, rfl, h0, r0⟩ := trodAll_cons hA
  obtain ⟨v1, vs1, d1, ds1, p1, q1, rfl, rfl, rfl, h1, r1⟩ := trodAll_cons r0
  obtain ⟨rfl, rfl, rfl⟩ := trodAll_nil r1
  obtain rfl : args = #[v0, v1] := by cases args; simp_all
  obtain ⟨rfl, rfl⟩ := trodVars_none hV
  obtain ⟨a0, len0, cap0, rfl⟩ := okWide_slice Tryd.underlying22 (hval 0 22 v0 rfl rfl)
  have k0 := h0
  have lt0 : ∀ x ∈ p0, x.block < W.heap.size := by obtain ⟨m, hm⟩ := k0; exact DataW.trod_lt m _ _ _ hm
  obtain ⟨z0, w0⟩ : ∃ zs, IsRow .u8 W a0 len0 cap0 zs := by
    obtain ⟨fuel, hf⟩ := h0
    rcases open_ints Tryd.underlying22 Tryd.underlying5 (by kernel_rfl) hf with ⟨hcs, _⟩ | ⟨x, l, c, zs, hcs, _, hl, hm, hz, _, hcell, hwz⟩
    · simp [Value.cells] at hcs
      obtain ⟨rfl, rfl, rfl⟩ := hcs
      exact ⟨[], .inl ⟨rfl, rfl, rfl, rfl⟩⟩
    · simp [Value.cells] at hcs
      obtain ⟨rfl, rfl, rfl⟩ := hcs
      exact ⟨zs, .inr ⟨_, rfl, hl, hm, by simpa using hz, hcell, hwz⟩⟩
  obtain ⟨a1, rfl, rfl, rfl, w1⟩ := open_int Tryd.underlying5 (hval 1 5 v1 rfl rfl) h1
  clear hA0 hval0
  simp only [List.append_nil] at hW'
  refine (walk W a0 len0 cap0 z0 w0 a1 w1 (of_laid hL)).mono fun e W' ⟨he, hg⟩ => ?_
  subst he
  exact ⟨_, rfl, _, _, _, [], _, [], hW', trodAll_mk1 (shut_bool Tryd.underlying4 _), (trodAll_cons_mk (Below.trod laidOut (by kernel_rfl) (of_decide_eq_true (by kernel_rfl)) k0 hg lt0) (trodAll_cons_mk (shut_int Tryd.underlying5 w1) trodAll_mk0)), rfl, hg.frame _, fun h => by cases h⟩
/-- The row: for every input, where the listed tables read as their initialisers lay them, the law returns true, and each argument reads as it did. -/
theorem row_proved : Rows.IntentBusySaid :=
  OpenClaim.holds_of_wide 3 Tryd.f3 rfl rfl rfl rfl rfl rfl rfl ⟨rfl, rfl, rfl, rfl, rfl⟩ rfl rfl rfl rfl rfl (by kernel_rfl) Tryd.func3 (by kernel_rfl)
    (of_decide_eq_true (by kernel_rfl)) (by unfold Func.isWrapper; first | (rw [if_pos (by decide +kernel)]; kernel_rfl) | (rw [if_neg (by decide +kernel)]; exact ⟨rfl, rfl⟩))
    (fun os started H enc _ => lifted os started H enc)
/-- For every input the law returns true, and each argument reads as it did; what the listed tables hold is tied to the program's text. -/
theorem proved : Rows.IntentBusyCardSaid :=
  Claim7.holds_tied_plain_at .later [] [.data] true (true, "8eb6aa2ae2ba8129efe7893d032e9b5d38cb2bd1a95c0a37f1256cbab6210f28") false
    row_proved (fun _ h => by cases h) (by kernel_rfl) (fun _ h => by cases h) intentBusy_row_tie rfl ⟨rfl, rfl⟩ (by kernel_rfl) rfl
    (fun f fn hf hfn => by
      obtain rfl : f = 3 := Option.some.inj ((show Tryd.prog.funcNamed "revetment/revetmentlaw10.IntentBusy" = some 3 by kernel_rfl).symm.trans hf) |>.symm
      obtain rfl : fn = Tryd.f3 := (Option.some.inj (Tryd.func3.symm.trans hfn)).symm
      exact ⟨by kernel_rfl, fun j t ht => by
        rw [Tryd.params3] at ht
        have hm : t ∈ [22, 5] := by simpa using Array.mem_of_getElem? ht
        have hall : ([22, 5].all fun u => !Tryd.prog.wantsStandIn u) = true := by kernel_rfl
        exact (show Tryd.prog.wantsStandIn t = false by simpa using List.all_eq_true.1 hall t hm)⟩)
    (by kernel_rfl)
end Go.Proofs.YtlhgafpidkcmcaaDoor.intentBusy
