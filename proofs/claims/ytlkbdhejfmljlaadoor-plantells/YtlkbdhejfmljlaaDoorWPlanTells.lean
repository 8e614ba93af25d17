/- PlanTells. -/
import Derived.Test.YtlkbdhejfmljlaaDoorPlLaw
import Derived.OpenShut
namespace Go.Proofs.YtlkbdhejfmljlaaDoor.planTells
open Go.RowKit
attribute [local go_sem] Oper.semAt_some

set_option maxRecDepth 100000 in
set_option maxHeartbeats 1000000 in
theorem walk_big (w : World) (SH : ∀ W, Below w.heap.size w W → Calls Tryd.prog 8 #[] W fun e w' => e = .returned (.bool true) ∧ Below W.heap.size W w') (n : Int) (a1 : Option Addr) (m1 k1 : Nat) (a2 : Option Addr) (m2 k2 : Nat) (hb : 30 < m1 ∨ 30 < m2) (way role : Int) :
    Calls Tryd.prog 3 #[.int .i64 n, .slice a1 m1 k1, .slice a2 m2 k2, .int .i64 way, .int .i64 role] w fun e w' => e = .returned (.bool true) ∧ Below w.heap.size w w' := by
  by_cases h1 : 30 < m1
  · have t1 : decide (30 < m1) = true := decide_eq_true h1
    have t2 : decide ((30 : Int) < (m1 : Int)) = true := decide_eq_true (by omega)
    clear h1 hb
    go_enter Tryd.func3, Tryd.ntmps3
    go_wp2_with fail
    refine (SH _ (Below.refl _ _)).mono ?_
    rintro e w1 ⟨rfl, b1⟩
    go_wp2
    go_ret
    exact ⟨rfl, b1⟩
  · have h2 : 30 < m2 := by omega
    have t1 : decide (30 < m1) = false := decide_eq_false h1
    have t2 : decide ((30 : Int) < (m1 : Int)) = false := decide_eq_false (by omega)
    have t3 : decide (30 < m2) = true := decide_eq_true h2
    have t4 : decide ((30 : Int) < (m2 : Int)) = true := decide_eq_true (by omega)
    clear h1 h2 hb
    go_enter Tryd.func3, Tryd.ntmps3
    go_wp2_with fail
    refine (SH _ (Below.refl _ _)).mono ?_
    rintro e w1 ⟨rfl, b1⟩
    go_wp2
    go_ret
    exact ⟨rfl, b1⟩

set_option maxRecDepth 100000 in
set_option maxHeartbeats 8000000 in
theorem core {w : World} (PS : PlanSays w) (n : Int) (hn : I64 n) (a1 : Option Addr) (m1 k1 : Nat) (B : Nat → Bool) (hm1 : m1 ≤ 30) (hk1 : m1 ≤ k1) (a2 : Option Addr) (k2 : Nat) (L : List Int) (hk2 : L.length ≤ k2) (hL : L.length ≤ 30) (way role : Int) (hway : I64 way) (hrole : I64 role) (hB : RowB w a1 m1 B) (hR : RowI .i64 w a2 L.length (fun j => L.getD j 0)) :
    Calls Tryd.prog 3 #[.int .i64 n, .slice a1 m1 k1, .slice a2 L.length k2, .int .i64 way, .int .i64 role] w fun e w' => e = .returned (.bool true) ∧ Below w.heap.size w w' := by
  have SH : Hid (∀ W, Below w.heap.size w W → Calls Tryd.prog 8 #[] W fun e w' => e = .returned (.bool true) ∧ Below W.heap.size W w') := fun W hW => shown15_any PS W hW
  obtain ⟨s1, s2⟩ := Pl.short (n := n) (m := m1) (B := B) (L := L)
  have s3 := Pl.short_read (n := n) (role := role) (L := L)
  obtain ⟨cw, ecw⟩ : ∃ cw, Pl.chooseW n m1 B L = cw := ⟨_, rfl⟩
  obtain ⟨cr, ecr⟩ : ∃ cr, Pl.chooseR n m1 B L = cr := ⟨_, rfl⟩
  obtain ⟨cp, ecp⟩ : ∃ cp, Pl.chooseP n m1 B L = cp := ⟨_, rfl⟩
  obtain ⟨ce, ece⟩ : ∃ ce, Pl.chooseE n m1 L = ce := ⟨_, rfl⟩
  obtain ⟨xn, exn⟩ : ∃ xn, Pl.costN n m1 B L way = xn := ⟨_, rfl⟩
  obtain ⟨xb, exb⟩ : ∃ xb, Pl.costB n m1 B L way = xb := ⟨_, rfl⟩
  obtain ⟨rl, erl⟩ : ∃ rl, Pl.readL n role L = rl := ⟨_, rfl⟩
  obtain ⟨re, ere⟩ : ∃ re, Pl.readE n role L = re := ⟨_, rfl⟩
  rw [ecr] at s1
  rw [ecp] at s2
  rw [erl] at s3
  obtain ⟨lr, elr⟩ : ∃ lr, cr.length = lr := ⟨_, rfl⟩
  obtain ⟨lw, elw⟩ : ∃ lw, cp.length = lw := ⟨_, rfl⟩
  obtain ⟨ln, eln⟩ : ∃ ln, rl.length = ln := ⟨_, rfl⟩
  rw [elr] at s1
  rw [elw] at s2
  rw [eln] at s3
  have HC : Hid (∀ W, Below w.heap.size w W → Calls Tryd.prog 9 #[.int .i64 n, .slice a1 m1 k1, .slice a2 L.length k2] W (ChooseQ cw cr cp lr lw ce W)) := fun W hW => (PS.choose W hW n a1 m1 k1 B hn hm1 hk1 (hB.below hW) a2 k2 L hk2 hL (hR.below hW)).mono fun _ _ h => h.q ecw ecr ecp elr elw ece
  have HD : Hid (∀ W, Below w.heap.size w W → Calls Tryd.prog 10 #[.int .i64 n, .slice a1 m1 k1, .slice a2 L.length k2] W (ChooseQ cw cr cp lr lw ce W)) := fun W hW => (rChoose15_any W n a1 m1 k1 B (hB.below hW) a2 k2 L hk2 hL (hR.below hW)).mono fun _ _ h => h.q ecw ecr ecp elr elw ece
  have HX : Hid (∀ W, Below w.heap.size w W → Calls Tryd.prog 11 #[.int .i64 n, .slice a1 m1 k1, .slice a2 L.length k2, .int .i64 way] W (Same15 W (.tuple #[.int .i64 (xn : Nat), .bool xb]))) := fun W hW => by
    have h := PS.cost W hW n a1 m1 k1 B hn hm1 hk1 (hB.below hW) a2 k2 L hk2 hL (hR.below hW) way hway
    rwa [exn, exb] at h
  have HY : Hid (∀ W, Below w.heap.size w W → Calls Tryd.prog 12 #[.int .i64 n, .slice a1 m1 k1, .slice a2 L.length k2, .int .i64 way] W (Same15 W (.tuple #[.int .i64 (xn : Nat), .bool xb]))) := fun W hW => by
    have h := rCost15_any W n a1 m1 k1 B (by omega) (hB.below hW) a2 k2 L hk2 (by omega) (hR.below hW) way
    rwa [exn, exb] at h
  have HR : Hid (∀ W, Below w.heap.size w W → Calls Tryd.prog 13 #[.int .i64 n, .int .i64 role, .slice a2 L.length k2] W (ReadQ rl ln re W)) := fun W hW => (PS.read W hW n role a2 k2 L hn hrole hk2 hL (hR.below hW)).mono fun _ _ h => h.q erl eln ere
  have HS : Hid (∀ W, Below w.heap.size w W → Calls Tryd.prog 14 #[.int .i64 n, .int .i64 role, .slice a2 L.length k2] W (ReadQ rl ln re W)) := fun W hW => (rRead15_says W n role a2 k2 L hk2 hL (hR.below hW)).mono fun _ _ h => h.q erl eln ere
  obtain ⟨m2, em2⟩ : ∃ m2, L.length = m2 := ⟨_, rfl⟩
  rw [em2] at HC HD HX HY HR HS hL ⊢
  have t1 : decide (30 < m1) = false := decide_eq_false (by omega)
  have t2 : decide ((30 : Int) < (m1 : Int)) = false := decide_eq_false (by omega)
  have t3 : decide (30 < m2) = false := decide_eq_false (by omega)
  have t4 : decide ((30 : Int) < (m2 : Int)) = false := decide_eq_false (by omega)
  clear hB hR em2 ecw ecr ecp ece exn exb erl ere elr elw eln hm1 hk1 hk2 hL PS hn hway hrole
  go_enter Tryd.func3, Tryd.ntmps3
  go_wp2_with fail
  refine (SH.out _ (Below.refl _ _)).mono ?_
  rintro e w1 ⟨rfl, b1⟩
  have B1 : Hid (Below w.heap.size w w1) := b1
  clear b1
  go_wp2_with fail
  refine (HC.out _ B1.out).mono ?_
  rintro e w2 ⟨⟨ar, kr, aw, kw, rfl, hr, hw⟩, b2⟩
  have HP : Hid (RowI .i64 w2 ar lr (fun j => cr.getD j 0) ∧ RowI .i64 w2 aw lw (fun j => cp.getD j 0)) := ⟨hr, hw⟩
  have x11 := Box15.new w2 26 (.int .i64 cw) (.slice ar lr kr) (.slice aw lw kw)
  have b2' : Below w2.heap.size w2 (w2.alloc (.cells #[.int .i64 cw, .slice ar lr kr, .slice aw lw kw] 26)) := (Below.refl _ w2).alloc (Nat.le_refl _) _
  have B2 : Hid (Below w.heap.size w (w2.alloc (.cells #[.int .i64 cw, .slice ar lr kr, .slice aw lw kw] 26))) := below2 (below2 B1.out b2) b2'
  have X11 : Hid (Box15 (w2.alloc (.cells #[.int .i64 cw, .slice ar lr kr, .slice aw lw kw] 26)) w2.heap.size (.int .i64 cw) (.slice ar lr kr) (.slice aw lw kw)) := x11
  have P2 : Hid (Below w2.heap.size w2 (w2.alloc (.cells #[.int .i64 cw, .slice ar lr kr, .slice aw lw kw] 26))) := b2'
  clear hr hw b2 x11 b2' B1
  go_wp2_with fail
  refine (HD.out _ B2.out).mono ?_
  rintro e w3 ⟨⟨dr, jr, dw, jw, rfl, hr, hw⟩, b3⟩
  have HQ : Hid (RowI .i64 w3 dr lr (fun j => cr.getD j 0) ∧ RowI .i64 w3 dw lw (fun j => cp.getD j 0)) := ⟨hr, hw⟩
  have x13 := Box15.new w3 30 (.int .i64 cw) (.slice dr lr jr) (.slice dw lw jw)
  have b3' : Below w3.heap.size w3 (w3.alloc (.cells #[.int .i64 cw, .slice dr lr jr, .slice dw lw jw] 30)) := (Below.refl _ w3).alloc (Nat.le_refl _) _
  have x11 := (X11.out.below b3 X11.out.lt).below b3' (X11.out.below b3 X11.out.lt).lt
  have q2 : Below w2.heap.size w2 (w3.alloc (.cells #[.int .i64 cw, .slice dr lr jr, .slice dw lw jw] 30)) := below2 (below2 P2.out b3) b3'
  have B3 : Hid (Below w.heap.size w (w3.alloc (.cells #[.int .i64 cw, .slice dr lr jr, .slice dw lw jw] 30))) := below2 (below2 B2.out b3) b3'
  have S3 : Hid (Box15 (w3.alloc (.cells #[.int .i64 cw, .slice dr lr jr, .slice dw lw jw] 30)) w2.heap.size (.int .i64 cw) (.slice ar lr kr) (.slice aw lw kw) ∧ Box15 (w3.alloc (.cells #[.int .i64 cw, .slice dr lr jr, .slice dw lw jw] 30)) w3.heap.size (.int .i64 cw) (.slice dr lr jr) (.slice dw lw jw)) := ⟨x11, x13⟩
  have R3 : Hid ((RowI .i64 (w3.alloc (.cells #[.int .i64 cw, .slice dr lr jr, .slice dw lw jw] 30)) ar lr (fun j => cr.getD j 0) ∧ RowI .i64 (w3.alloc (.cells #[.int .i64 cw, .slice dr lr jr, .slice dw lw jw] 30)) aw lw (fun j => cp.getD j 0)) ∧ RowI .i64 (w3.alloc (.cells #[.int .i64 cw, .slice dr lr jr, .slice dw lw jw] 30)) dr lr (fun j => cr.getD j 0) ∧ RowI .i64 (w3.alloc (.cells #[.int .i64 cw, .slice dr lr jr, .slice dw lw jw] 30)) dw lw (fun j => cp.getD j 0)) := ⟨⟨HP.out.1.below q2, HP.out.2.below q2⟩, hr.below b3', hw.below b3'⟩
  clear hr hw b3 x11 x13 b3' q2 B2 X11 P2 HP HQ
  go_wp2_with fail
  refine (HX.out _ B3.out).mono ?_
  rintro e w4 ⟨rfl, b4⟩
  have S4 : Hid (Box15 w4 w2.heap.size (.int .i64 cw) (.slice ar lr kr) (.slice aw lw kw) ∧ Box15 w4 w3.heap.size (.int .i64 cw) (.slice dr lr jr) (.slice dw lw jw)) := ⟨S3.out.1.below b4 S3.out.1.lt, S3.out.2.below b4 S3.out.2.lt⟩
  have R4 : Hid ((RowI .i64 w4 ar lr (fun j => cr.getD j 0) ∧ RowI .i64 w4 aw lw (fun j => cp.getD j 0)) ∧ RowI .i64 w4 dr lr (fun j => cr.getD j 0) ∧ RowI .i64 w4 dw lw (fun j => cp.getD j 0)) := ⟨⟨R3.out.1.1.below b4, R3.out.1.2.below b4⟩, R3.out.2.1.below b4, R3.out.2.2.below b4⟩
  have B4 : Hid (Below w.heap.size w w4) := below2 B3.out b4
  clear b4 S3 R3 B3
  go_wp2_with fail
  refine (HY.out _ B4.out).mono ?_
  rintro e w5 ⟨rfl, b5⟩
  have S5 : Hid (Box15 w5 w2.heap.size (.int .i64 cw) (.slice ar lr kr) (.slice aw lw kw) ∧ Box15 w5 w3.heap.size (.int .i64 cw) (.slice dr lr jr) (.slice dw lw jw)) := ⟨S4.out.1.below b5 S4.out.1.lt, S4.out.2.below b5 S4.out.2.lt⟩
  have R5 : Hid ((RowI .i64 w5 ar lr (fun j => cr.getD j 0) ∧ RowI .i64 w5 aw lw (fun j => cp.getD j 0)) ∧ RowI .i64 w5 dr lr (fun j => cr.getD j 0) ∧ RowI .i64 w5 dw lw (fun j => cp.getD j 0)) := ⟨⟨R4.out.1.1.below b5, R4.out.1.2.below b5⟩, R4.out.2.1.below b5, R4.out.2.2.below b5⟩
  have B5 : Hid (Below w.heap.size w w5) := below2 B4.out b5
  clear b5 S4 R4 B4
  go_wp2_with fail
  refine (HR.out _ B5.out).mono ?_
  rintro e w6 ⟨⟨la, lk, rfl, hl⟩, b6⟩
  have S6 : Hid (Box15 w6 w2.heap.size (.int .i64 cw) (.slice ar lr kr) (.slice aw lw kw) ∧ Box15 w6 w3.heap.size (.int .i64 cw) (.slice dr lr jr) (.slice dw lw jw)) := ⟨S5.out.1.below b6 S5.out.1.lt, S5.out.2.below b6 S5.out.2.lt⟩
  have R6 : Hid ((RowI .i64 w6 ar lr (fun j => cr.getD j 0) ∧ RowI .i64 w6 aw lw (fun j => cp.getD j 0)) ∧ RowI .i64 w6 dr lr (fun j => cr.getD j 0) ∧ RowI .i64 w6 dw lw (fun j => cp.getD j 0)) := ⟨⟨R5.out.1.1.below b6, R5.out.1.2.below b6⟩, R5.out.2.1.below b6, R5.out.2.2.below b6⟩
  have B6 : Hid (Below w.heap.size w w6) := below2 B5.out b6
  have HL6 : Hid (RowI .i64 w6 la ln (fun j => rl.getD j 0)) := hl
  clear b6 S5 R5 B5 hl
  go_wp2_with fail
  refine (HS.out _ B6.out).mono ?_
  rintro e w7 ⟨⟨ma, mk, rfl, hl⟩, b7⟩
  have s7 : Box15 w7 w2.heap.size (.int .i64 cw) (.slice ar lr kr) (.slice aw lw kw) ∧ Box15 w7 w3.heap.size (.int .i64 cw) (.slice dr lr jr) (.slice dw lw jw) := ⟨S6.out.1.below b7 S6.out.1.lt, S6.out.2.below b7 S6.out.2.lt⟩
  have S7 : Hid (Box15 w7 w2.heap.size (.int .i64 cw) (.slice ar lr kr) (.slice aw lw kw) ∧ Box15 w7 w3.heap.size (.int .i64 cw) (.slice dr lr jr) (.slice dw lw jw)) := s7
  have R7 : Hid ((RowI .i64 w7 ar lr (fun j => cr.getD j 0) ∧ RowI .i64 w7 aw lw (fun j => cp.getD j 0)) ∧ RowI .i64 w7 dr lr (fun j => cr.getD j 0) ∧ RowI .i64 w7 dw lw (fun j => cp.getD j 0)) := ⟨⟨R6.out.1.1.below b7, R6.out.1.2.below b7⟩, R6.out.2.1.below b7, R6.out.2.2.below b7⟩
  have B7 : Hid (Below w.heap.size w w7) := below2 B6.out b7
  have HL7 : Hid (RowI .i64 w7 la ln (fun j => rl.getD j 0) ∧ RowI .i64 w7 ma ln (fun j => rl.getD j 0)) := ⟨HL6.out.below b7, hl⟩
  obtain ⟨⟨f0, f1, f2, _, _, _⟩, g0, g1, g2, _, _, _⟩ := s7
  clear b7 S6 R6 B6 HL6 hl
  go_wp2_with fail
  refine (same_rows ar dr lr kr jr _ (by omega) w7 R7.out.1.1 R7.out.2.1).mono ?_
  rintro e w8 ⟨rfl, b8⟩
  obtain ⟨_, _, f2', _, _, _⟩ := S7.out.1.below b8 S7.out.1.lt
  obtain ⟨_, _, g2', _, _, _⟩ := S7.out.2.below b8 S7.out.2.lt
  have R8 : Hid (RowI .i64 w8 aw lw (fun j => cp.getD j 0) ∧ RowI .i64 w8 dw lw (fun j => cp.getD j 0)) := ⟨R7.out.1.2.below b8, R7.out.2.2.below b8⟩
  have B8 : Hid (Below w.heap.size w w8) := below2 B7.out b8
  have HL8 : Hid (RowI .i64 w8 la ln (fun j => rl.getD j 0) ∧ RowI .i64 w8 ma ln (fun j => rl.getD j 0)) := ⟨HL7.out.1.below b8, HL7.out.2.below b8⟩
  clear b8 S7 R7 B7 HL7 f0 f1 f2 g0 g1 g2
  go_wp2_with fail
  refine (same_rows aw dw lw kw jw _ (by omega) w8 R8.out.1 R8.out.2).mono ?_
  rintro e w9 ⟨rfl, b9⟩
  have B9 : Hid (Below w.heap.size w w9) := below2 B8.out b9
  have HL9 : Hid (RowI .i64 w9 la ln (fun j => rl.getD j 0) ∧ RowI .i64 w9 ma ln (fun j => rl.getD j 0)) := ⟨HL8.out.1.below b9, HL8.out.2.below b9⟩
  clear b9 R8 B8 HL8
  go_wp2_with fail
  refine (same_rows la ma ln lk mk _ (by omega) w9 HL9.out.1 HL9.out.2).mono ?_
  rintro e w10 ⟨rfl, b10⟩
  have B10 : Hid (Below w.heap.size w w10) := below2 B9.out b10
  clear b10 HL9 B9
  go_wp2
  go_ret
  exact ⟨rfl, B10.out⟩

theorem walk_of (w : World) (PS : PlanSays w) (a0 : Int) (w0 : (Lit.int .i64 a0).wf = true) (a1 : Option Addr) (len1 cap1 : Nat) (B1 : Nat → Bool) (w1 : IsBools w a1 len1 cap1 B1) (a2 : Option Addr) (len2 cap2 : Nat) (z2 : List Int) (w2 : IsRow .i64 w a2 len2 cap2 z2) (a3 : Int) (w3 : (Lit.int .i64 a3).wf = true) (a4 : Int) (w4 : (Lit.int .i64 a4).wf = true) :
    Calls Tryd.prog 3 #[.int .i64 a0, .slice a1 len1 cap1, .slice a2 len2 cap2, .int .i64 a3, .int .i64 a4] w fun e w' => e = .returned (.bool true) ∧ Below w.heap.size w w' := by
  by_cases hb : 30 < len1 ∨ 30 < len2
  · exact walk_big w (shown15_any PS) a0 a1 len1 cap1 a2 len2 cap2 hb a3 a4
  · have hc := w2.le
    obtain ⟨L, rfl, _, _, hrow⟩ := w2.rowZ
    exact core PS a0 (bounds_i64 w0) a1 len1 cap1 B1 (by omega) w1.le a2 cap2 L hc (by omega) a3 a4 (bounds_i64 w3) (bounds_i64 w4) w1.rowB hrow
end Go.Proofs.YtlkbdhejfmljlaaDoor.planTells
