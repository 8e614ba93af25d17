/- For all numbers the law SuperBack returns true: a superblock that may be comes back from its sector, and two have the same sector only if they are the same. No condition. -/
import Derived.Test.YtinegeacpohlcaaSup08
import Derived.ProofKit
import Derived.OpenShut
import Derived.ShutString
import Derived.ChangeOld
import Derived.Below
namespace Go.Proofs.Ytinegeacpohlcaa.superBack
open Go.ChangeShapes Go.WideShapes Go.ChangeAt Go.RowKit
open Go.ChangeMaps (open_string shut_string)

namespace Back
/-- what lies in the second of two new blocks, behind a call -/
theorem two_cells (w : World) (A : Array Value) (tA : TypeId) (B : Array Value) (tB : TypeId) (w1 : World) (h : Below ((w.alloc (.cells A tA)).alloc (.cells B tB)).heap.size ((w.alloc (.cells A tA)).alloc (.cells B tB)) w1) :
    w1.heap[w.heap.size + 1]? = some (.cells B tB (0, 0)) ∧ Below w.heap.size w w1 := by
  have s1 : (w.alloc (.cells A tA)).heap.size = w.heap.size + 1 := World.size_alloc ..
  have s2 : ((w.alloc (.cells A tA)).alloc (.cells B tB)).heap.size = w.heap.size + 1 + 1 := by rw [World.size_alloc, s1]
  have e2 := heap_new (w.alloc (.cells A tA)) (.cells B tB)
  rw [s1] at e2
  exact ⟨(h.block _ (by omega)).trans e2, (((Below.refl _ w).alloc (Nat.le_refl _) _).alloc (by omega) _).trans (h.mono (by omega))⟩
end Back

set_option maxRecDepth 100000 in
set_option maxHeartbeats 8000000 in
theorem walk_nat (u v e f : Nat) (hu : u < 18446744073709551616) (hv : v < 18446744073709551616) (he : e < 18446744073709551616) (hf : f < 18446744073709551616) (l m : A8) (hl : l.Ok) (hm : m.Ok) (w : World) :
    Calls Try.prog 4 #[.int .u64 (u : Int), .int .u64 (v : Int), .int .u64 (e : Int), .int .u64 (f : Int), arrV l, arrV m] w fun en w' => en = .returned (.bool true) ∧ Below w.heap.size w w' := by
  have HS := fun W => some_any u e l hl W
  have HT := fun W => some_any v f m hm W
  have ms := Sup.someS_may u e l hl
  have mt := Sup.someS_may v f m hm
  have is := Sup.someS_in u e hu he l hl
  have it := Sup.someS_in v f hv hf m hm
  obtain ⟨s, hs⟩ : ∃ s, Sup.someS u e l = s := ⟨_, rfl⟩
  obtain ⟨t, ht⟩ : ∃ t, Sup.someS v f m = t := ⟨_, rfl⟩
  rw [hs] at HS ms is
  rw [ht] at HT mt it
  have fs := Sup.Fit.of_may ms is.uu is.ev
  have ft := Sup.Fit.of_may mt it.uu it.ev
  have bs : Sup.mayB s = true := by simp [Sup.mayB, ms]
  have bt : Sup.mayB t = true := by simp [Sup.mayB, mt]
  have HE := fun W => Encode8_any s is W
  have HF := fun W => Encode8_any t it W
  rw [show Sup.encE s = 0 by simp [Sup.encE, bs], show Sup.encT s = Sup.secT s by simp [Sup.encT, bs]] at HE
  rw [show Sup.encE t = 0 by simp [Sup.encE, bt], show Sup.encT t = Sup.secT t by simp [Sup.encT, bt]] at HF
  have HD := fun W => Decode8_any (Sup.secT s) W
  rw [Sup.decE_secT ms fs, Sup.decS_secT ms fs] at HD
  have HM := fun W => May_any s is.nw is.c W
  rw [bs] at HM
  have Q1 := eqSup s s
  rw [decide_eq_true rfl] at Q1
  have Q2 := eqSup s t
  have Q3 : ((Sup.secT s).toList == (Sup.secT t).toList) = decide (s = t) := by
    rw [tx_eq, Bool.eq_iff_iff, decide_eq_true_iff, decide_eq_true_iff]
    exact ⟨Sup.secT_inj fs ft, fun h => by rw [h]⟩
  generalize decide (s = t) = p at *
  generalize Sup.secT s = A at *
  generalize Sup.secT t = B at *
  clear ms mt is it fs ft bs bt hs ht hl hm hu hv he hf
  obtain ⟨a0, a1, a2, a3, a4, a5, a6, a7⟩ := l
  obtain ⟨d0, d1, d2, d3, d4, d5, d6, d7⟩ := m
  obtain ⟨s0, s1, s2, s3, s4, s5, s6, s7, s8, s9⟩ := s
  obtain ⟨t0, t1, t2, t3, t4, t5, t6, t7, t8, t9⟩ := t
  unfold supV arrV at *
  dsimp only at *
  go_enter Try.func4, Try.ntmps4
  have HA0 : Hid _ := Back.two_cells w #[.int .u8 (a0 : Int), .int .u8 (a1 : Int), .int .u8 (a2 : Int), .int .u8 (a3 : Int), .int .u8 (a4 : Int), .int .u8 (a5 : Int), .int .u8 (a6 : Int), .int .u8 (a7 : Int)] 40 #[.int .u8 (d0 : Int), .int .u8 (d1 : Int), .int .u8 (d2 : Int), .int .u8 (d3 : Int), .int .u8 (d4 : Int), .int .u8 (d5 : Int), .int .u8 (d6 : Int), .int .u8 (d7 : Int)] 40
  go_wp2_with fail
  refine (HS _).mono ?_
  rintro en w1 ⟨rfl, hb1⟩
  obtain ⟨hq1, HB1⟩ := HA0.out w1 hb1
  have HB1 : Hid (Below w.heap.size w w1) := HB1
  have e0 := Go.Joins.cell_of_block hq1 0
  have e1 := Go.Joins.cell_of_block hq1 1
  have e2 := Go.Joins.cell_of_block hq1 2
  have e3 := Go.Joins.cell_of_block hq1 3
  have e4 := Go.Joins.cell_of_block hq1 4
  have e5 := Go.Joins.cell_of_block hq1 5
  have e6 := Go.Joins.cell_of_block hq1 6
  have e7 := Go.Joins.cell_of_block hq1 7
  simp only [List.getElem?_toArray, List.getElem?_cons_zero, List.getElem?_cons_succ] at e0 e1 e2 e3 e4 e5 e6 e7
  have lt1 : w.heap.size + 1 < w1.heap.size := World.block_lt_of_cell? w1 _ e0
  have HS2 : Hid (SupAt (w1.alloc (.cells #[.int .u64 (s0 : Int), .int .u64 (s1 : Int), .int .i64 s2, .int .i64 s3, .int .i64 s4, .int .i64 s5, .bool s6, .int .i64 s7, .int .i64 s8, .int .i64 s9] 26)) w1.heap.size 0 ⟨s0, s1, s2, s3, s4, s5, s6, s7, s8, s9⟩) := SupAt.new w1 ⟨s0, s1, s2, s3, s4, s5, s6, s7, s8, s9⟩ 26
  have HB2 : Hid (Below w.heap.size w (w1.alloc (.cells #[.int .u64 (s0 : Int), .int .u64 (s1 : Int), .int .i64 s2, .int .i64 s3, .int .i64 s4, .int .i64 s5, .bool s6, .int .i64 s7, .int .i64 s8, .int .i64 s9] 26))) := HB1.out.alloc HB1.out.size _
  clear hb1 hq1 HB1 HA0
  go_wp2_with fail
  refine (HT _).mono ?_
  rintro en w3 ⟨rfl, hb3⟩
  have HS3 : Hid (SupAt w3 w1.heap.size 0 ⟨s0, s1, s2, s3, s4, s5, s6, s7, s8, s9⟩) := SupAt.below HS2.out hb3 (SupAt.lt HS2.out)
  have HB3 : Hid (Below w.heap.size w w3) := below2 HB2.out hb3
  clear e0 e1 e2 e3 e4 e5 e6 e7 HS2 HB2 hb3 lt1
  have lt3 : w1.heap.size < w3.heap.size := SupAt.lt HS3.out
  generalize w1.heap.size = b1 at *
  have HT4 : Hid (SupAt (w3.alloc (.cells #[.int .u64 (t0 : Int), .int .u64 (t1 : Int), .int .i64 t2, .int .i64 t3, .int .i64 t4, .int .i64 t5, .bool t6, .int .i64 t7, .int .i64 t8, .int .i64 t9] 26)) w3.heap.size 0 ⟨t0, t1, t2, t3, t4, t5, t6, t7, t8, t9⟩) := SupAt.new w3 ⟨t0, t1, t2, t3, t4, t5, t6, t7, t8, t9⟩ 26
  have HS4 : Hid (SupAt (w3.alloc (.cells #[.int .u64 (t0 : Int), .int .u64 (t1 : Int), .int .i64 t2, .int .i64 t3, .int .i64 t4, .int .i64 t5, .bool t6, .int .i64 t7, .int .i64 t8, .int .i64 t9] 26)) b1 0 ⟨s0, s1, s2, s3, s4, s5, s6, s7, s8, s9⟩) := SupAt.below HS3.out ((Below.refl _ w3).alloc (Nat.le_refl _) _) (SupAt.lt HS3.out)
  have HB4 : Hid (Below w.heap.size w (w3.alloc (.cells #[.int .u64 (t0 : Int), .int .u64 (t1 : Int), .int .i64 t2, .int .i64 t3, .int .i64 t4, .int .i64 t5, .bool t6, .int .i64 t7, .int .i64 t8, .int .i64 t9] 26))) := HB3.out.alloc HB3.out.size _
  obtain ⟨m0, m1, m2, m3, m4, m5, m6, m7, m8, m9⟩ := HS3.out
  simp only [Nat.zero_add] at m1 m2 m3 m4 m5 m6 m7 m8 m9
  go_wp2_with fail
  refine (HE _).mono ?_
  rintro en w5 ⟨rfl, hb5⟩
  have HS5 : Hid (SupAt w5 b1 0 ⟨s0, s1, s2, s3, s4, s5, s6, s7, s8, s9⟩) := SupAt.below HS4.out hb5 (SupAt.lt HS4.out)
  have HT5 : Hid (SupAt w5 w3.heap.size 0 ⟨t0, t1, t2, t3, t4, t5, t6, t7, t8, t9⟩) := SupAt.below HT4.out hb5 (SupAt.lt HT4.out)
  have HB5 : Hid (Below w.heap.size w w5) := below2 HB4.out hb5
  clear m0 m1 m2 m3 m4 m5 m6 m7 m8 m9 hb5 lt3 HS4 HT4 HB4 HS3 HB3
  generalize w3.heap.size = b2 at *
  obtain ⟨n0, n1, n2, n3, n4, n5, n6, n7, n8, n9⟩ := HT5.out
  simp only [Nat.zero_add] at n1 n2 n3 n4 n5 n6 n7 n8 n9
  go_wp2_with fail
  refine (HF _).mono ?_
  rintro en w6 ⟨rfl, hb6⟩
  have HS6 : Hid (SupAt w6 b1 0 ⟨s0, s1, s2, s3, s4, s5, s6, s7, s8, s9⟩) := SupAt.below HS5.out hb6 (SupAt.lt HS5.out)
  have HT6 : Hid (SupAt w6 b2 0 ⟨t0, t1, t2, t3, t4, t5, t6, t7, t8, t9⟩) := SupAt.below HT5.out hb6 (SupAt.lt HT5.out)
  have HB6 : Hid (Below w.heap.size w w6) := below2 HB5.out hb6
  clear n0 n1 n2 n3 n4 n5 n6 n7 n8 n9 hb6 HS5 HT5 HB5
  go_wp2_with fail
  refine (HD _).mono ?_
  rintro en w7 ⟨rfl, hb7⟩
  have HS7 : Hid (SupAt w7 b1 0 ⟨s0, s1, s2, s3, s4, s5, s6, s7, s8, s9⟩) := SupAt.below HS6.out hb7 (SupAt.lt HS6.out)
  have HT7 : Hid (SupAt w7 b2 0 ⟨t0, t1, t2, t3, t4, t5, t6, t7, t8, t9⟩) := SupAt.below HT6.out hb7 (SupAt.lt HT6.out)
  have HB7 : Hid (Below w.heap.size w w7) := below2 HB6.out hb7
  clear hb7 HS6 HT6 HB6
  have HS8 : Hid (SupAt (w7.alloc (.cells #[.int .u64 (s0 : Int), .int .u64 (s1 : Int), .int .i64 s2, .int .i64 s3, .int .i64 s4, .int .i64 s5, .bool s6, .int .i64 s7, .int .i64 s8, .int .i64 s9] 26)) b1 0 ⟨s0, s1, s2, s3, s4, s5, s6, s7, s8, s9⟩) := SupAt.below HS7.out ((Below.refl _ w7).alloc (Nat.le_refl _) _) (SupAt.lt HS7.out)
  have HT8 : Hid (SupAt (w7.alloc (.cells #[.int .u64 (s0 : Int), .int .u64 (s1 : Int), .int .i64 s2, .int .i64 s3, .int .i64 s4, .int .i64 s5, .bool s6, .int .i64 s7, .int .i64 s8, .int .i64 s9] 26)) b2 0 ⟨t0, t1, t2, t3, t4, t5, t6, t7, t8, t9⟩) := SupAt.below HT7.out ((Below.refl _ w7).alloc (Nat.le_refl _) _) (SupAt.lt HT7.out)
  have HB8 : Hid (Below w.heap.size w (w7.alloc (.cells #[.int .u64 (s0 : Int), .int .u64 (s1 : Int), .int .i64 s2, .int .i64 s3, .int .i64 s4, .int .i64 s5, .bool s6, .int .i64 s7, .int .i64 s8, .int .i64 s9] 26))) := HB7.out.alloc HB7.out.size _
  obtain ⟨m0, m1, m2, m3, m4, m5, m6, m7, m8, m9⟩ := HS7.out
  simp only [Nat.zero_add] at m1 m2 m3 m4 m5 m6 m7 m8 m9
  have lt7 : b1 < w7.heap.size := SupAt.lt HS7.out
  clear HS7 HT7 HB7
  go_wp2_with fail
  refine (HM _).mono ?_
  rintro en w9 ⟨rfl, hb9⟩
  have HS9 : Hid (SupAt w9 b1 0 ⟨s0, s1, s2, s3, s4, s5, s6, s7, s8, s9⟩) := SupAt.below HS8.out hb9 (SupAt.lt HS8.out)
  have HT9 : Hid (SupAt w9 b2 0 ⟨t0, t1, t2, t3, t4, t5, t6, t7, t8, t9⟩) := SupAt.below HT8.out hb9 (SupAt.lt HT8.out)
  have HB9 : Hid (Below w.heap.size w w9) := below2 HB8.out hb9
  clear m0 m1 m2 m3 m4 m5 m6 m7 m8 m9 hb9 lt7 HS8 HT8 HB8
  obtain ⟨m0, m1, m2, m3, m4, m5, m6, m7, m8, m9⟩ := HS9.out
  simp only [Nat.zero_add] at m1 m2 m3 m4 m5 m6 m7 m8 m9
  obtain ⟨n0, n1, n2, n3, n4, n5, n6, n7, n8, n9⟩ := HT9.out
  simp only [Nat.zero_add] at n1 n2 n3 n4 n5 n6 n7 n8 n9
  clear HS9 HT9
  go_wp2_with fail
  refine (shown8_any _).mono ?_
  rintro en w10 ⟨rfl, hb10⟩
  have HB10 : Hid (Below w.heap.size w w10) := below2 HB9.out hb10
  clear hb10 m0 m1 m2 m3 m4 m5 m6 m7 m8 m9 n0 n1 n2 n3 n4 n5 n6 n7 n8 n9
  go_wp2
  go_ret
  exact ⟨rfl, HB10.out⟩
theorem walk (w : World) (u : Int) (wu : (Lit.int .u64 u).wf = true) (v : Int) (wv : (Lit.int .u64 v).wf = true) (e : Int) (we : (Lit.int .u64 e).wf = true) (f : Int) (wf : (Lit.int .u64 f).wf = true) (l : A8) (hl : l.Ok) (m : A8) (hm : m.Ok) :
    Calls Try.prog 4 #[.int .u64 u, .int .u64 v, .int .u64 e, .int .u64 f, arrV l, arrV m] w fun en w' => en = .returned (.bool true) ∧ Below w.heap.size w w' := by
  obtain ⟨u, rfl, hu⟩ := u64_nat wu
  obtain ⟨v, rfl, hv⟩ := u64_nat wv
  obtain ⟨e, rfl, he⟩ := u64_nat we
  obtain ⟨f, rfl, hf⟩ := u64_nat wf
  exact walk_nat u v e f hu hv he hf l m hl hm w

theorem own : ownKnob Try.prog.godebug = none := by kernel_rfl
theorem laidOut : laidOutB Try.prog = true := by kernel_rfl
set_option linter.unusedVariables false in
set_option maxRecDepth 100000 in
theorem lifted (os : Os) (started : os.Started) (H : Type) (enc : TypeId × Value → H) :
    ReturnsInHanded {} Try.checked os 4 .any (Rows.superBackSpec.pre6 enc Try.prog Try.f4 Rows.superBackRow.domain false) (Rows.superBackSpec.post enc Try.prog Try.f4 false true false false) := by
  refine returnsInHanded_of_change (C := Try.checked) own started (by kernel_rfl) Try.func4
    (ChangeSpec.witness6 (enc := enc) (C := Try.checked) false ⟨#[], #[.int .u64 0, .int .u64 0, .int .u64 0, .int .u64 0, .agg #[.int .u8 0, .int .u8 0, .int .u8 0, .int .u8 0, .int .u8 0, .int .u8 0, .int .u8 0, .int .u8 0], .agg #[.int .u8 0, .int .u8 0, .int .u8 0, .int .u8 0, .int .u8 0, .int .u8 0, .int .u8 0, .int .u8 0]], []⟩ 8 (by kernel_rfl) (by kernel_rfl) (by kernel_rfl) (by kernel_rfl)) ?_
  intro W base args ds gs before hval0 hW hcnd _
  have hval : ∀ (j : Nat) t v, Try.f4.params[j]? = some t → args[j]? = some v → Value.okWide Try.prog W .any base t v := hval0
  have hW' := hW
  obtain ⟨p, q, hA0, hV, rfl, hfz, hnd⟩ := hW
  have hA : DataW.TrodAll enc Try.prog W 0 (fun _ => true) true Try.f4.params.toList args.toList ds p := hA0
  rw [Try.params4] at hA hval
  obtain ⟨v0, vs0, d0, ds0, p0, q0, hargs, rfl, rfl, h0, r0⟩ := trodAll_cons hA
  obtain ⟨v1, vs1, d1, ds1, p1, q1, rfl, rfl, rfl, h1, r1⟩ := trodAll_cons r0
  obtain ⟨v2, vs2, d2, ds2, p2, q2, rfl, rfl, rfl, h2, r2⟩ := trodAll_cons r1
  obtain ⟨v3, vs3, d3, ds3, p3, q3, rfl, rfl, rfl, h3, r3⟩ := trodAll_cons r2
  obtain ⟨v4, vs4, d4, ds4, p4, q4, rfl, rfl, rfl, h4, r4⟩ := trodAll_cons r3
  obtain ⟨v5, vs5, d5, ds5, p5, q5, rfl, rfl, rfl, h5, r5⟩ := trodAll_cons r4
  obtain ⟨rfl, rfl, rfl⟩ := trodAll_nil r5
  obtain rfl : args = #[v0, v1, v2, v3, v4, v5] := by cases args; simp_all
  obtain ⟨rfl, rfl⟩ := trodVars_none hV
  obtain ⟨a0, rfl, rfl, rfl, w0⟩ := open_int Try.underlying22 (hval 0 22 v0 rfl rfl) h0
  obtain ⟨a1, rfl, rfl, rfl, w1⟩ := open_int Try.underlying22 (hval 1 22 v1 rfl rfl) h1
  obtain ⟨a2, rfl, rfl, rfl, w2⟩ := open_int Try.underlying22 (hval 2 22 v2 rfl rfl) h2
  obtain ⟨a3, rfl, rfl, rfl, w3⟩ := open_int Try.underlying22 (hval 3 22 v3 rfl rfl) h3
  obtain ⟨s4, rfl, w4⟩ := open_arr8 (hval 4 40 v4 rfl rfl) h4
  have k4 := h4
  have lt4 : ∀ x ∈ p4, x.block < W.heap.size := by obtain ⟨m, hm⟩ := k4; exact DataW.trod_lt m _ _ _ hm
  obtain ⟨s5, rfl, w5⟩ := open_arr8 (hval 5 40 v5 rfl rfl) h5
  have k5 := h5
  have lt5 : ∀ x ∈ p5, x.block < W.heap.size := by obtain ⟨m, hm⟩ := k5; exact DataW.trod_lt m _ _ _ hm
  clear hA0 hval0
  simp only [List.append_nil] at hW'
  refine (walk W a0 w0 a1 w1 a2 w2 a3 w3 s4 w4 s5 w5).mono fun e W' ⟨he, hg⟩ => ?_
  subst he
  exact ⟨_, rfl, _, _, _, [], _, [], hW', trodAll_mk1 (shut_bool Try.underlying4 _), (trodAll_cons_mk (shut_int Try.underlying22 w0) (trodAll_cons_mk (shut_int Try.underlying22 w1) (trodAll_cons_mk (shut_int Try.underlying22 w2) (trodAll_cons_mk (shut_int Try.underlying22 w3) (trodAll_cons_mk (Below.trod laidOut (by kernel_rfl) (of_decide_eq_true (by kernel_rfl)) k4 hg lt4) (trodAll_cons_mk (Below.trod laidOut (by kernel_rfl) (of_decide_eq_true (by kernel_rfl)) k5 hg lt5) trodAll_mk0)))))), rfl, hg.frame _, fun h => by cases h⟩
/-- For every input the law returns true, and each argument reads as it did. -/
theorem proved : Rows.SuperBackSaid :=
  OpenClaim.holds_of_wide 4 Try.f4 rfl rfl rfl rfl rfl rfl rfl ⟨rfl, rfl, rfl, rfl, rfl⟩ rfl rfl rfl rfl rfl (by kernel_rfl) Try.func4 (by kernel_rfl)
    (of_decide_eq_true (by kernel_rfl)) (by unfold Func.isWrapper; first | (rw [if_pos (by decide +kernel)]; kernel_rfl) | (rw [if_neg (by decide +kernel)]; exact ⟨rfl, rfl⟩))
    (fun os started H enc _ => lifted os started H enc)
end Go.Proofs.Ytinegeacpohlcaa.superBack
