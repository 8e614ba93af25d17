/- For every page and every text the law PagesTells returns true: what any page's sector is, and which page any bytes are, is the document's, or its error. Conditions: the library's tables unicode/utf8.acceptRanges and unicode/utf8.first, which the call never reads, hold what they are laid with (tied to the program's text by the card). -/
import Derived.Test.YtlcoibfpebggoaaGreatDoorPgSays
import Derived.Test.YtlcoibfpebggoaaGreatDoorRef11Dec
import Derived.Test.YtlcoibfpebggoaaGreatDoorKitPg
import Derived.Test.YtlcoibfpebggoaaGreatDoorShown11
import Derived.Test.YtlcoibfpebggoaaGreatDoorPgDid
import Derived.Test.YtlcoibfpebggoaaGreatDoorCards
import Derived.Test.YtlcoibfpebggoaaGreatDoorTie
import Derived.ProofKit
import Derived.OpenShut
import Derived.ShutString
import Derived.Lay
import Derived.LaidOnce
import Derived.Stop.Joined
import Derived.SevenTiedAt
namespace Go.Proofs.YtlcoibfpebggoaaGreatDoor.pagesTells
open Go.ChangeShapes Go.WideShapes Go.ChangeAt Go.RowKit
open Go.ChangeMaps (open_string shut_string)

set_option maxRecDepth 100000 in
set_option maxHeartbeats 1000000 in
theorem walk_far (S : Shown) (p : Pge) (b : ByteArray) (h : 200 < b.size ∨ 100 < p.bits.size) (w : World) :
    Calls Tryz.prog 3 #[pgV p, .string b] w fun e w' => e = .returned (.bool true) ∧ Below w.heap.size w w' := by
  obtain ⟨ev, bits⟩ := p
  unfold pgV
  by_cases h1 : (200 : Int) < (b.size : Int)
  · clear h
    go_enter Tryz.func3, Tryz.ntmps3
    go_wp2_with fail
    refine (S _).mono ?_
    rintro e w1 ⟨rfl, b1⟩
    go_wp2
    go_ret
    exact ⟨rfl, ((Below.refl _ w).alloc (Nat.le_refl _) _).trans (b1.mono (by simp))⟩
  · have h2 : (100 : Int) < (bits.size : Int) := by have : 100 < bits.size := h.resolve_left (by omega); omega
    clear h
    go_enter Tryz.func3, Tryz.ntmps3
    go_wp2_with fail
    refine (S _).mono ?_
    rintro e w1 ⟨rfl, b1⟩
    go_wp2
    go_ret
    exact ⟨rfl, ((Below.refl _ w).alloc (Nat.le_refl _) _).trans (b1.mono (by simp))⟩

/-- a page in a block of its own, and what is known of it -/
theorem page_new (w : World) (ev : Nat) (bits : ByteArray) (t : TypeId) (w' : World) (h : Below (w.alloc (.cells #[.int .u64 (ev : Int), .string bits] t)).heap.size (w.alloc (.cells #[.int .u64 (ev : Int), .string bits] t)) w') :
    w'.cell? ⟨w.heap.size, 0, none⟩ = some (.int .u64 (ev : Int)) ∧ w'.cell? ⟨w.heap.size, 1, none⟩ = some (.string bits) := pg_cells h

set_option maxRecDepth 100000 in
set_option maxHeartbeats 2000000 in
theorem walk_no (X : PgSays) (S : Shown) (ev : Nat) (hev : ev < 18446744073709551616) (bits b : ByteArray) (h1 : b.size ≤ 200) (h2 : bits.size ≤ 100) (hn : bits.size ≠ 8) (w : World) :
    Calls Tryz.prog 3 #[.agg #[.int .u64 (ev : Int), .string bits], .string b] w fun e w' => e = .returned (.bool true) ∧ Below w.heap.size w w' := by
  have hE := fun W => X.enc ⟨ev, bits⟩ hev W
  have hR := fun W => rEncode11_any ⟨ev, bits⟩ hev W
  rw [show Pg.encT ⟨ev, bits⟩ = ⟨#[]⟩ from if_neg hn, show Pg.encE ⟨ev, bits⟩ = 1 from if_neg hn] at hE hR
  have hD := fun W => X.dec b W
  have hQ := fun W => rDecode11_any b W
  obtain ⟨x, hx⟩ : ∃ x, x = Pg.decS b := ⟨_, rfl⟩
  obtain ⟨g, hg⟩ : ∃ g, g = Pg.decE b := ⟨_, rfl⟩
  rw [← hx, ← hg] at hD hQ
  have hq := fun W => eq_rpage x W
  obtain ⟨xe, xb⟩ := x
  unfold pgV at hE hR hD hQ
  have HD : Hid _ := hD
  have HQ : Hid _ := hQ
  have HS : Hid Shown := S
  have l1 : ¬ (200 : Int) < (b.size : Int) := by omega
  have l2 : ¬ (100 : Int) < (bits.size : Int) := by omega
  dsimp only at hq
  clear hx hg hD hQ h1 h2 hn hev S X
  go_enter Tryz.func3, Tryz.ntmps3
  go_wp2_with fail
  refine (HS.out _).mono ?_
  rintro e w1 ⟨rfl, b1⟩
  obtain ⟨c0, c1⟩ := pg_cells b1
  have B1 : Hid (Below w.heap.size w w1) := ((Below.refl _ w).alloc (Nat.le_refl _) _).trans (b1.mono (by simp))
  have L1 : Hid (w.heap.size < w1.heap.size) := World.block_lt_of_cell? w1 _ c0
  clear b1
  go_wp2_with fail
  refine (hE _).mono ?_
  rintro e w2 ⟨rfl, b2⟩
  have d0 := (b2.cell (p := ⟨w.heap.size, 0, none⟩) L1.out).trans c0
  have d1 := (b2.cell (p := ⟨w.heap.size, 1, none⟩) L1.out).trans c1
  have B2 : Hid (Below w.heap.size w w2) := B1.out.trans (b2.mono B1.out.size)
  clear b2 c0 c1
  go_wp2_with fail
  refine (hR _).mono ?_
  rintro e w3 ⟨rfl, b3⟩
  have B3 : Hid (Below w.heap.size w w3) := B2.out.trans (b3.mono B2.out.size)
  clear b3 d0 d1 hE hR
  go_wp2_with fail
  refine (HD.out _).mono ?_
  rintro e w4 ⟨rfl, b4⟩
  have B4 : Hid (Below w.heap.size w w4) := B3.out.trans (b4.mono B3.out.size)
  clear b4
  go_wp2_with fail
  refine (HQ.out _).mono ?_
  rintro e w5 ⟨rfl, b5⟩
  obtain ⟨x0, x1⟩ := pg_cells b5
  have B5 : Hid (Below w.heap.size w w5) := (B4.out.trans ((Below.refl _ w4).alloc B4.out.size _)).trans (b5.mono (by have := B4.out.size; simp; omega))
  have l5 : w4.heap.size < w5.heap.size := World.block_lt_of_cell? w5 _ x0
  clear b5
  go_wp2
  go_ret
  exact ⟨rfl, (B5.out.alloc B5.out.size _)⟩

set_option maxRecDepth 100000 in
set_option maxHeartbeats 2000000 in
theorem walk_yes (X : PgSays) (S : Shown) (ev : Nat) (hev : ev < 18446744073709551616) (bits b : ByteArray) (h1 : b.size ≤ 200) (_h2 : bits.size ≤ 100) (hn : bits.size = 8) (w : World) :
    Calls Tryz.prog 3 #[.agg #[.int .u64 (ev : Int), .string bits], .string b] w fun e w' => e = .returned (.bool true) ∧ Below w.heap.size w w' := by
  have hE := fun W => X.enc ⟨ev, bits⟩ hev W
  have hR := fun W => rEncode11_any ⟨ev, bits⟩ hev W
  rw [show Pg.encT ⟨ev, bits⟩ = Pg.secT ⟨ev, bits⟩ from if_pos hn, show Pg.encE ⟨ev, bits⟩ = 0 from if_pos hn] at hE hR
  have hZ := fun W => X.dec (Pg.secT ⟨ev, bits⟩) W
  rw [Pg.decS_secT (p := ⟨ev, bits⟩) hev hn, Pg.decE_secT (p := ⟨ev, bits⟩) hev hn] at hZ
  have hz := fun W => eq_page _ rfl ⟨ev, bits⟩ W
  obtain ⟨s, hs⟩ : ∃ s, s = Pg.secT ⟨ev, bits⟩ := ⟨_, rfl⟩
  rw [← hs] at hE hR hZ
  have hD := fun W => X.dec b W
  have hQ := fun W => rDecode11_any b W
  obtain ⟨x, hx⟩ : ∃ x, x = Pg.decS b := ⟨_, rfl⟩
  obtain ⟨g, hg⟩ : ∃ g, g = Pg.decE b := ⟨_, rfl⟩
  rw [← hx, ← hg] at hD hQ
  have hq := fun W => eq_rpage x W
  obtain ⟨xe, xb⟩ := x
  unfold pgV at hE hR hD hQ hZ
  have HZ : Hid _ := hZ
  have HD : Hid _ := hD
  have HQ : Hid _ := hQ
  have HS : Hid Shown := S
  have l1 : ¬ (200 : Int) < (b.size : Int) := by omega
  have l2 : ¬ (100 : Int) < (bits.size : Int) := by omega
  dsimp only at hq hz
  clear hx hg hD hQ h1 hn hev S X hs hZ
  go_enter Tryz.func3, Tryz.ntmps3
  go_wp2_with fail
  refine (HS.out _).mono ?_
  rintro e w1 ⟨rfl, b1⟩
  obtain ⟨c0, c1⟩ := pg_cells b1
  have B1 : Hid (Below w.heap.size w w1) := ((Below.refl _ w).alloc (Nat.le_refl _) _).trans (b1.mono (by simp))
  have L1 : Hid (w.heap.size < w1.heap.size) := World.block_lt_of_cell? w1 _ c0
  clear b1
  go_wp2_with fail
  refine (hE _).mono ?_
  rintro e w2 ⟨rfl, b2⟩
  have d0 := (b2.cell (p := ⟨w.heap.size, 0, none⟩) L1.out).trans c0
  have d1 := (b2.cell (p := ⟨w.heap.size, 1, none⟩) L1.out).trans c1
  have B2 : Hid (Below w.heap.size w w2) := B1.out.trans (b2.mono B1.out.size)
  have b2s : Hid (w1.heap.size ≤ w2.heap.size) := b2.size
  clear b2 c0 c1
  go_wp2_with fail
  refine (hR _).mono ?_
  rintro e w3 ⟨rfl, b3⟩
  have B3 : Hid (Below w.heap.size w w3) := B2.out.trans (b3.mono B2.out.size)
  have e0 := (b3.cell (p := ⟨w.heap.size, 0, none⟩) (Nat.lt_of_lt_of_le L1.out (Nat.le_trans (b2s.out) (Nat.le_refl _)))).trans d0
  have e1 := (b3.cell (p := ⟨w.heap.size, 1, none⟩) (Nat.lt_of_lt_of_le L1.out (Nat.le_trans (b2s.out) (Nat.le_refl _)))).trans d1
  have L3 : Hid (w.heap.size < w3.heap.size) := World.block_lt_of_cell? w3 _ e0
  clear b3 d0 d1 hE hR
  go_wp2_with fail
  refine (HD.out _).mono ?_
  rintro e w4 ⟨rfl, b4⟩
  have B4 : Hid (Below w.heap.size w w4) := B3.out.trans (b4.mono B3.out.size)
  have p0 := (b4.cell (p := ⟨w.heap.size, 0, none⟩) L3.out).trans e0
  have p1 := (b4.cell (p := ⟨w.heap.size, 1, none⟩) L3.out).trans e1
  have L4 : Hid (w.heap.size < w4.heap.size) := World.block_lt_of_cell? w4 _ p0
  clear b4 e0 e1
  go_wp2_with fail
  refine (HQ.out _).mono ?_
  rintro e w5 ⟨rfl, b5⟩
  obtain ⟨x0, x1⟩ := pg_cells b5
  have B5 : Hid (Below w.heap.size w w5) := (B4.out.trans ((Below.refl _ w4).alloc B4.out.size _)).trans (b5.mono (by have := B4.out.size; simp; omega))
  have l5 : w4.heap.size < w5.heap.size := World.block_lt_of_cell? w5 _ x0
  have q0 := ((((Below.refl _ w4).alloc (Nat.le_refl _) _).trans (b5.mono (by simp))).cell (p := ⟨w.heap.size, 0, none⟩) L4.out).trans p0
  have q1 := ((((Below.refl _ w4).alloc (Nat.le_refl _) _).trans (b5.mono (by simp))).cell (p := ⟨w.heap.size, 1, none⟩) L4.out).trans p1
  clear b5 p0 p1
  go_wp2_with fail
  refine (HZ.out _).mono ?_
  rintro e w6 ⟨rfl, b6⟩
  have r0 := ((((Below.refl _ w5).alloc (Nat.le_refl _) _).trans (b6.mono (by simp))).cell (p := ⟨w.heap.size, 0, none⟩) (World.block_lt_of_cell? w5 _ q0)).trans q0
  have r1 := ((((Below.refl _ w5).alloc (Nat.le_refl _) _).trans (b6.mono (by simp))).cell (p := ⟨w.heap.size, 1, none⟩) (World.block_lt_of_cell? w5 _ q1)).trans q1
  have B6 : Hid (Below w.heap.size w w6) := (B5.out.trans ((Below.refl _ w5).alloc B5.out.size _)).trans (b6.mono (by have := B5.out.size; simp; omega))
  have l6 : w.heap.size < w6.heap.size := World.block_lt_of_cell? w6 _ r0
  clear b6 q0 q1 l5 x0 x1
  go_wp2
  go_ret
  exact ⟨rfl, B6.out.alloc B6.out.size _⟩

theorem walk_says (X : PgSays) (S : Shown) (w : World) (p : Pge) (wf : p.ev < 18446744073709551616 ∧ p.bits.size ≤ maxLen) (b : ByteArray) (_hb : b.size ≤ maxLen) :
    Calls Tryz.prog 3 #[pgV p, .string b] w fun e w' => e = .returned (.bool true) ∧ Below w.heap.size w w' := by
  by_cases h : 200 < b.size ∨ 100 < p.bits.size
  · exact walk_far S p b h w
  · obtain ⟨ev, bits⟩ := p
    have h1 : b.size ≤ 200 := by omega
    have h2 : bits.size ≤ 100 := Nat.le_of_not_lt fun x => h (.inr x)
    by_cases hn : bits.size = 8
    · exact walk_yes X S ev wf.1 bits b h1 h2 hn w
    · exact walk_no X S ev wf.1 bits b h1 h2 hn w

theorem of_laid {W : World} (_ : laidMetH Tryz.prog Rows.pagesTellsRow.laid W) : True := trivial
theorem walk (w : World) (p : Pge) (wf : p.ev < 18446744073709551616 ∧ p.bits.size ≤ maxLen) (b : ByteArray) (hb : b.size ≤ maxLen) (_ : True) :
    Calls Tryz.prog 3 #[pgV p, .string b] w fun e w' => e = .returned (.bool true) ∧ Below w.heap.size w w' := walk_says pg_says (shown11 pg_does) w p wf b hb

theorem own : ownKnob Tryz.prog.godebug = none := by kernel_rfl
theorem laidOut : laidOutB Tryz.prog = true := by kernel_rfl
theorem door_met (os : Os) (args : Array Value) : laidMetH Tryz.prog Rows.pagesTellsRow.laid ((World.laidAll Tryz.prog os Rows.pagesTellsRow.laid).forCall (fun _ _ => 0) ⟨#[], args, []⟩).memory := by
  rw [MakeChecks.laidMetH_plain _ _ _ (by kernel_rfl)]
  exact laidMet_laidAll _ (by kernel_rfl) (by kernel_rfl)
set_option linter.unusedVariables false in
set_option maxRecDepth 100000 in
theorem lifted (os : Os) (started : os.Started) (H : Type) (enc : TypeId × Value → H) :
    ReturnsInHanded {} Tryz.checked os 3 .any (fun w args => (Rows.pagesTellsSpec.pre enc Tryz.prog Tryz.f3 [] false w args ∧ laidMetH Tryz.prog Rows.pagesTellsRow.laid w) ∧ sizedMet enc Tryz.prog Tryz.f3 (OpenSpec.ofChange Rows.pagesTellsSpec) false w args) (Rows.pagesTellsSpec.post enc Tryz.prog Tryz.f3 false true false false) := by
  refine returnsInHanded_of_change_and (C := Tryz.checked) (X := fun w _ => laidMetH Tryz.prog Rows.pagesTellsRow.laid w) (fun _ _ _ hh h => h.of_heap hh) own started (by kernel_rfl) Tryz.func3
    (ChangeSpec.witness_shaped (enc := enc) (C := Tryz.checked) (os := os) (X := fun w _ => laidMetH Tryz.prog Rows.pagesTellsRow.laid w) false (World.laidAll Tryz.prog os Rows.pagesTellsRow.laid) #[.agg #[.int .u64 0, .string ByteArray.empty], .string ByteArray.empty] 8 (World.laidAll_os _ _ _) (World.shaped_of_ZipB (by kernel_rfl) (by kernel_rfl)) (by kernel_rfl) (by kernel_rfl) (by kernel_rfl) (door_met os _)) ?_
  intro W base args ds gs before hval0 hW _ _ hL _
  have hval : ∀ (j : Nat) t v, Tryz.f3.params[j]? = some t → args[j]? = some v → Value.okWide Tryz.prog W .any base t v := hval0
  have hW' := hW
  obtain ⟨p, q, hA0, hV, rfl, hfz, hnd⟩ := hW
  have hA : DataW.TrodAll enc Tryz.prog W 0 (fun _ => true) true Tryz.f3.params.toList args.toList ds p := hA0
  rw [Tryz.params3] at hA hval
  obtain ⟨v0, vs0, d0, ds0, p0, q0, hargs, rfl, rfl, h0, r0⟩ := trodAll_cons hA
  obtain ⟨v1, vs1, d1, ds1, p1, q1, rfl, rfl, rfl, h1, r1⟩ := trodAll_cons r0
  obtain ⟨rfl, rfl, rfl⟩ := trodAll_nil r1
  obtain rfl : args = #[v0, v1] := by cases args; simp_all
  obtain ⟨rfl, rfl⟩ := trodVars_none hV
  obtain ⟨s0, rfl, w0⟩ := open_page (hval 0 24 v0 rfl rfl) h0
  have k0 := h0
  have lt0 : ∀ x ∈ p0, x.block < W.heap.size := by obtain ⟨m, hm⟩ := k0; exact DataW.trod_lt m _ _ _ hm
  obtain ⟨a1, rfl, rfl, rfl, w1⟩ := open_string Tryz.underlying9 (hval 1 9 v1 rfl rfl) h1
  clear hA0 hval0
  simp only [List.append_nil] at hW'
  refine (walk W s0 w0 a1 w1 (of_laid hL)).mono fun e W' ⟨he, hg⟩ => ?_
  subst he
  exact ⟨_, rfl, _, _, _, [], _, [], hW', trodAll_mk1 (shut_bool Tryz.underlying4 _), (trodAll_cons_mk (Below.trod laidOut (by kernel_rfl) (of_decide_eq_true (by kernel_rfl)) k0 hg lt0) (trodAll_cons_mk (shut_string Tryz.underlying9 w1) trodAll_mk0)), rfl, hg.frame _, fun h => by cases h⟩
/-- The row: for every input, where the listed tables read as their initialisers lay them, the law returns true, and each argument reads as it did. -/
theorem row_proved : Rows.PagesTellsSaid :=
  OpenClaim.holds_of_wide 3 Tryz.f3 rfl rfl rfl rfl rfl rfl rfl ⟨rfl, rfl, rfl, rfl, rfl⟩ rfl rfl rfl rfl rfl (by kernel_rfl) Tryz.func3 (by kernel_rfl)
    (of_decide_eq_true (by kernel_rfl)) (by unfold Func.isWrapper; first | (rw [if_pos (by decide +kernel)]; kernel_rfl) | (rw [if_neg (by decide +kernel)]; exact ⟨rfl, rfl⟩))
    (fun os started H enc _ => lifted os started H enc)
/-- For every input the law returns true, and each argument reads as it did; what the listed tables hold is tied to the program's text. -/
theorem proved : Rows.PagesTellsCardSaid :=
  Claim7.holds_tied_plain_at .later [] [.data, .pinned] true (true, "517d6080fa90421d27ef2ef93c386dcf76469a6045d9f472575822940872c396") false
    row_proved (fun _ h => by cases h) (by kernel_rfl) (fun _ h => by cases h) pagesTells_row_tie rfl ⟨rfl, rfl⟩ (by kernel_rfl) rfl
    (fun f fn hf hfn => by
      obtain rfl : f = 3 := Option.some.inj ((show Tryz.prog.funcNamed "revetment/revetmentlaw11.PagesTells" = some 3 by kernel_rfl).symm.trans hf) |>.symm
      obtain rfl : fn = Tryz.f3 := (Option.some.inj (Tryz.func3.symm.trans hfn)).symm
      exact ⟨by kernel_rfl, fun j t ht => by
        rw [Tryz.params3] at ht
        have hm : t ∈ [24, 9] := by simpa using Array.mem_of_getElem? ht
        have hall : ([24, 9].all fun u => !Tryz.prog.wantsStandIn u) = true := by kernel_rfl
        exact (show Tryz.prog.wantsStandIn t = false by simpa using List.all_eq_true.1 hall t hm)⟩)
    (by kernel_rfl)
end Go.Proofs.YtlcoibfpebggoaaGreatDoor.pagesTells
