/- For every record that may be the law RecordHeads returns true: a head alone tells its number, its row, and its places; with another load it is none. Conditions: the library's tables that strings.Trim's code names, which the call never reads at these texts, hold what they are laid with (tied to the program's text by the card). -/
import Derived.Test.YtmikllmpinciiaaDoorRecKnown
import Derived.Test.YtmikllmpinciiaaDoorRecInts
import Derived.Test.YtmikllmpinciiaaDoorMRkB
import Derived.Test.YtmikllmpinciiaaDoorCards
import Derived.Test.YtmikllmpinciiaaDoorTie
import Derived.ProofKit
import Derived.OpenShut
import Derived.ShutString
import Derived.Lay
import Derived.LaidOnce
import Derived.Stop.Joined
import Derived.SevenTiedAt
namespace Go.Proofs.YtmikllmpinciiaaDoor
open Go.RowKit

namespace Rc
theorem zeros_none : headE (fillB ⟨#[]⟩) = 80 := headE_sum (fillB_size _) (by decide +kernel)
end Rc
set_option maxRecDepth 100000 in
set_option maxHeartbeats 4000000 in
theorem heads12_main (X : RecSays) (seq row fr by_ at_ : Nat) (a : Option Addr) (n cap : Nat) (l : Nat → ByteArray) (w : World) (h0 : seq < 18446744073709551616) (h1 : row < 256) (h2 : fr < 256) (hr : RowS w a n l) (n1 : 1 ≤ n) (n40 : n ≤ 40) (hl : ∀ j, j < n → (l j).size ≤ 100) :
    Calls Tryd.prog 6 #[.int .u64 (seq : Int), .int .u8 (row : Int), .int .u8 (fr : Int), .slice a n cap, .int .u8 (at_ : Int), .int .u8 (by_ : Int)] w fun e w' => e = .returned (.bool true) ∧ Below w.heap.size w w' := by
  have hheavy := heavy12_any w a n cap l hr (fun j hj => by have := hl j hj; unfold maxLen; omega) (by unfold maxLen; omega)
  have hK := known12 X seq row fr n l h0 h1 h2 n1 n40 hl
  obtain ⟨h, hh⟩ : ∃ h, h = Rc.headS seq (row : Int) n (Rc.someP fr l) (Rc.sumF n (Rc.someP fr l)) := ⟨_, rfl⟩
  rw [← hh] at hK
  have HK : Hid (Known12 seq row fr n l h) := hK
  have HSh : Hid _ := fun W => shown12_any X W
  have hsz := hK.size
  have hxx : (h ++ (⟨#[120]⟩ : ByteArray)).size = 65 := by rw [ByteArray.size_append, hsz]; rfl
  have hh1 := head_none X (b := h ++ (⟨#[120]⟩ : ByteArray)) (k := 31) (by omega) (Rc.headE_short (by rw [hxx]; decide)) (by decide)
  have hh2 := head_none X (b := Rc.fillB ⟨#[]⟩) (k := 80) (by rw [Rc.fillB_size]; decide) Rc.zeros_none (by decide)
  have hfull := fun W => full12_any ⟨#[]⟩ (by decide) W
  have hz64 := Rc.fillB_size ⟨#[]⟩
  obtain ⟨z, hz⟩ : ∃ z, z = Rc.fillB ⟨#[]⟩ := ⟨_, rfl⟩
  rw [← hz] at hh2 hfull hz64
  have HX1 : Hid _ := hh1
  have HX2 : Hid _ := hh2
  have HRow : Hid (RowS w a n l) := hr
  have hc1 : IntKind.i64.wrap (row : Int) = (row : Int) := by rw [IntKind.wrap_i64]; omega
  have hmx : Tryd.prog.follows .mixedOrders = true := by kernel_rfl
  have HMX : Hid (Tryd.prog.follows .mixedOrders = true) := hmx
  have hk1 : ¬ (40 : Int) < (n : Int) := by omega
  have hk2 : ((n : Int) == 0) = false := by rw [beq_eq_false_iff_ne]; omega
  obtain ⟨i0, hi, hz0, hz1, hz2⟩ := info_parts info_str
  have HZ : Hid (z.size = 64) := hz64
  have hlim : ¬ 9223372036854775807 < h.size + 1 := by omega
  clear hr hh hmx hK hh1 hh2 hz hz64 hxx
  go_enter Tryd.func6, Tryd.ntmps6
  go_wp2_with fail
  refine hheavy.mono ?_
  rintro e w' ⟨rfl, hcase⟩
  rcases hcase with rfl | ⟨rfl, _⟩
  · go_wp2_with fail
    refine (HSh.out _).mono ?_
    rintro e w2 ⟨rfl, hb⟩
    have HB : Hid _ := hb
    clear hb
    go_wp2
    go_ret
    exact ⟨rfl, HB.out⟩
  · go_wp2_with fail
    refine (HSh.out _).mono ?_
    rintro e w0 ⟨rfl, hb0⟩
    have HB0 : Hid (Below w'.heap.size w' w0) := hb0
    have HRow0 : Hid (RowS w0 a n l) := HRow.out.below hb0
    clear hb0 hheavy
    go_wp2_with fail
    refine (HK.out.some _ _ _ HRow0.out).mono ?_
    rintro e w1 ⟨a1, c1, rfl, hp1, _, _, hb1⟩
    have HB1 : Hid (Below w'.heap.size w' w1) := below2 HB0.out hb1
    have HP1 : Hid (PartsR w1 a1 n (Rc.someP fr l)) := hp1
    clear hp1 hb1
    go_upto_region 4 with fail
    obtain ⟨hx13, b13'⟩ := box_new12 w1 25 (.int .u64 (seq : Int)) (.int .i64 (row : Int)) (.slice a1 n c1)
    obtain ⟨w2, hw2⟩ : ∃ w2, w2 = w1.alloc (.cells #[.int .u64 (seq : Int), .int .i64 (row : Int), .slice a1 n c1] 25) := ⟨_, rfl⟩
    obtain ⟨b13, hb13⟩ : ∃ b13, b13 = w1.heap.size := ⟨_, rfl⟩
    rw [← hw2] at hx13 b13' ⊢
    rw [← hb13] at hx13 ⊢
    have HP2 : Hid (PartsR w2 a1 n (Rc.someP fr l)) := HP1.out.below b13'
    have HB2 : Hid (Below w'.heap.size w' w2) := below2 HB1.out b13'
    have HX13 : Hid (BoxAt w2 b13 (.int .u64 (seq : Int)) (.int .i64 (row : Int)) (.slice a1 n c1)) := hx13
    obtain ⟨y0, y1, y2, _, _, _⟩ := hx13
    clear hw2 hb13 b13' HP1
    go_wp2_with fail
    refine (HK.out.enc _ _ _ HP2.out).mono ?_
    rintro e w3 ⟨aL, cL, rfl, hown, hr3, hcL, hb3⟩
    have HO3 : Hid (w3.ownsRow w2.heap.size 9 1 (.slice aL n cL) n (textVals n fun j => (Rc.someP fr l j).data)) := hown
    have HP3 : Hid (PartsR w3 a1 n (Rc.someP fr l)) := HP2.out.below hb3
    have HX3 : Hid (BoxAt w3 b13 (.int .u64 (seq : Int)) (.int .i64 (row : Int)) (.slice a1 n c1)) := HX13.out.below hb3 HX13.out.lt
    have HB3 : Hid (Below w'.heap.size w' w3) := below2 HB2.out hb3
    have HSz2 : Hid (w'.heap.size ≤ w2.heap.size ∧ w2.heap.size ≤ w3.heap.size) := ⟨HB2.out.size, hb3.size⟩
    clear hr3 hown hb3 y0 y1 y2 HX13 HP2
    go_wp2_with fail
    refine (HK.out.head _).mono ?_
    rintro e w4 ⟨sm, a4, c4, rfl, hp4, hb4⟩
    have HO4 : Hid (w4.ownsRow w2.heap.size 9 1 (.slice aL n cL) n (textVals n fun j => (Rc.someP fr l j).data)) := ownsRow_below HO3.out hb4
    have HP4 : Hid (PartsR w4 a1 n (Rc.someP fr l) ∧ PartsR w4 a4 n (Rc.bareP fr)) := ⟨HP3.out.below hb4, hp4⟩
    have HX4 : Hid (BoxAt w4 b13 (.int .u64 (seq : Int)) (.int .i64 (row : Int)) (.slice a1 n c1)) := HX3.out.below hb4 HX3.out.lt
    have HB4 : Hid (Below w'.heap.size w' w4) := below2 HB3.out hb4
    have HSz4 : Hid (w3.heap.size ≤ w4.heap.size) := hb4.size
    clear hp4 hb4 HX3 HP3 HO3
    go_upto_region 6 with fail
    obtain ⟨hx17, b17'⟩ := box_new12 w4 25 (.int .u64 (seq : Int)) (.int .i64 (row : Int)) (.slice a4 n c4)
    obtain ⟨w5, hw5⟩ : ∃ w5, w5 = w4.alloc (.cells #[.int .u64 (seq : Int), .int .i64 (row : Int), .slice a4 n c4] 25) := ⟨_, rfl⟩
    obtain ⟨b17, hb17⟩ : ∃ b17, b17 = w4.heap.size := ⟨_, rfl⟩
    rw [← hw5] at hx17 b17' ⊢
    rw [← hb17] at hx17 ⊢
    have HO5 : Hid (w5.ownsRow w2.heap.size 9 1 (.slice aL n cL) n (textVals n fun j => (Rc.someP fr l j).data)) := ownsRow_below HO4.out b17'
    have HP5 : Hid (PartsR w5 a1 n (Rc.someP fr l) ∧ PartsR w5 a4 n (Rc.bareP fr)) := ⟨HP4.out.1.below b17', HP4.out.2.below b17'⟩
    have HX5 : Hid (BoxAt w5 b13 (.int .u64 (seq : Int)) (.int .i64 (row : Int)) (.slice a1 n c1) ∧ BoxAt w5 b17 (.int .u64 (seq : Int)) (.int .i64 (row : Int)) (.slice a4 n c4)) := ⟨HX4.out.below b17' HX4.out.lt, hx17⟩
    have HB5 : Hid (Below w'.heap.size w' w5) := below2 HB4.out b17'
    have HSz5 : Hid (w'.heap.size ≤ w2.heap.size ∧ w2.heap.size ≤ w5.heap.size) := ⟨HSz2.out.1, Nat.le_trans HSz2.out.2 (Nat.le_trans HSz4.out b17'.size)⟩
    obtain ⟨y0, y1, y2, _, _, _⟩ := hx17
    clear hw5 hb17 b17' HO4 HP4 HX4 HB4
    go_upto_region 8 with fail
    clear y0 y1 y2
    go_wp2
    go_loopg [20] n (fun gg i wr => ∃ k : Nat, k ≤ n ∧ gg = n - k ∧ i = .int .i64 (k : Int) ∧ Below w5.heap.size w5 wr)
    case atStart => exact ⟨0, Nat.zero_le _, rfl, rfl, Below.refl _ _⟩
    case round =>
    obtain ⟨k, hk, rfl, rfl, hb⟩ := hrel
    have HB : Hid (Below w5.heap.size w5 wr) := hb
    have HBw : Hid (Below w'.heap.size w' wr) := below2 HB5.out hb
    clear hb
    by_cases hlt : k < n
    case pos =>
      have hki : (k : Int) < (n : Int) := by omega
      obtain ⟨br, or_, rfl, hpr⟩ := HP5.out.1 k hlt
      obtain ⟨bx, ox, rfl, hpx⟩ := HP5.out.2 k hlt
      obtain ⟨r0, r1, _⟩ := hpr.below HB.out hpr.lt
      obtain ⟨q0, q1, q2⟩ := hpx.below HB.out hpx.lt
      obtain ⟨_, _, k13, _, _, _⟩ := HX5.out.1.below HB.out HX5.out.1.lt
      obtain ⟨_, _, k17, _, _, _⟩ := HX5.out.2.below HB.out HX5.out.2.lt
      obtain ⟨pc, hpc⟩ : ∃ pc : Int, pc = (Rc.someP fr l k).col := ⟨_, rfl⟩
      obtain ⟨po, hpo⟩ : ∃ po : Int, po = (Rc.someP fr l k).off := ⟨_, rfl⟩
      rw [← hpc] at r0
      rw [← hpo] at r1
      rw [show (Rc.bareP fr k).col = pc from hpc.symm ▸ rfl] at q0
      rw [show (Rc.bareP fr k).off = po from hpo.symm ▸ rfl] at q1
      rw [show (Rc.bareP fr k).data = ⟨#[]⟩ from rfl] at q2
      have HLT : Hid (k < n) := hlt
      clear hpr hpx hpc hpo
      go_upto_region 11 with fail
      have hS : (fun W : World => W.cell? ⟨b17, 2, none⟩ = some (.slice (some ⟨bx, ox, none⟩) n c4) ∧ W.cell? ⟨b13, 2, none⟩ = some (.slice (some ⟨br, or_, none⟩) n c1) ∧ W.cell? ⟨bx, ox + k * 3, none⟩ = some (.int .i64 pc) ∧ W.cell? ⟨bx, ox + k * 3 + 1, none⟩ = some (.int .i64 po) ∧ W.cell? ⟨bx, ox + k * 3 + 2, none⟩ = some (.string ⟨#[]⟩) ∧ W.cell? ⟨br, or_ + k * 3, none⟩ = some (.int .i64 pc) ∧ W.cell? ⟨br, or_ + k * 3 + 1, none⟩ = some (.int .i64 po)) wr.drew := ⟨k17, k13, q0, q1, q2, r0, r1⟩
      refine wp_region_held (S := fun W => W.cell? ⟨b17, 2, none⟩ = some (.slice (some ⟨bx, ox, none⟩) n c4) ∧ W.cell? ⟨b13, 2, none⟩ = some (.slice (some ⟨br, or_, none⟩) n c1) ∧ W.cell? ⟨bx, ox + k * 3, none⟩ = some (.int .i64 pc) ∧ W.cell? ⟨bx, ox + k * 3 + 1, none⟩ = some (.int .i64 po) ∧ W.cell? ⟨bx, ox + k * 3 + 2, none⟩ = some (.string ⟨#[]⟩) ∧ W.cell? ⟨br, or_ + k * 3, none⟩ = some (.int .i64 pc) ∧ W.cell? ⟨br, or_ + k * 3 + 1, none⟩ = some (.int .i64 po)) HMX.out ?_
      change wpAnyH _ _ _ _ _ _ _ _ wr.drew
      refine held_quiet 0 (v := ?v0q1) rfl (by kernel_rfl) (fun _ _ _ h => h) (by assumption) rfl ?hy0q1 ?rest0q1
      case hy0q1 => (intro wS hSw; (try dsimp only at hSw); go_simp; try with_reducible rfl)
      try simp only [Act.put, List.setIfInBounds_toArray, List.set_cons_zero, List.set_cons_succ]
      refine held_quiet 1 (v := ?v1q2) rfl (by kernel_rfl) (fun _ _ _ h => h) (by assumption) rfl ?hy1q2 ?rest1q2
      case hy1q2 => (intro wS hSw; (try dsimp only at hSw); go_simp; try with_reducible rfl)
      try simp only [Act.put, List.setIfInBounds_toArray, List.set_cons_zero, List.set_cons_succ]
      refine held_quiet 2 (v := ?v2q3) rfl (by kernel_rfl) (fun _ _ _ h => h) (by assumption) rfl ?hy2q3 ?rest2q3
      case hy2q3 => (intro wS hSw; (try dsimp only at hSw); go_simp; try with_reducible rfl)
      try simp only [Act.put, List.setIfInBounds_toArray, List.set_cons_zero, List.set_cons_succ]
      refine held_quiet 3 (v := ?v3q4) rfl (by kernel_rfl) (fun _ _ _ h => h) (by assumption) rfl ?hy3q4 ?rest3q4
      case hy3q4 => (intro wS hSw; (try dsimp only at hSw); go_simp; try with_reducible rfl)
      try simp only [Act.put, List.setIfInBounds_toArray, List.set_cons_zero, List.set_cons_succ]
      refine held_quiet 4 (v := ?v4q5) rfl (by kernel_rfl) (fun _ _ _ h => h) (by assumption) rfl ?hy4q5 ?rest4q5
      case hy4q5 => (intro wS hSw; (try dsimp only at hSw); go_simp; try with_reducible rfl)
      try simp only [Act.put, List.setIfInBounds_toArray, List.set_cons_zero, List.set_cons_succ]
      refine held_quiet 5 (v := ?v5q6) rfl (by kernel_rfl) (fun _ _ _ h => h) (by assumption) rfl ?hy5q6 ?rest5q6
      case hy5q6 => (intro wS hSw; (try dsimp only at hSw); go_simp; try with_reducible rfl)
      try simp only [Act.put, List.setIfInBounds_toArray, List.set_cons_zero, List.set_cons_succ]
      refine held_quiet 6 (v := ?v6q7) rfl (by kernel_rfl) (fun _ _ _ h => h) (by assumption) rfl ?hy6q7 ?rest6q7
      case hy6q7 => (intro wS hSw; (try dsimp only at hSw); go_simp; try with_reducible rfl)
      try simp only [Act.put, List.setIfInBounds_toArray, List.set_cons_zero, List.set_cons_succ]
      refine held_quiet 7 (v := ?v7q8) rfl (by kernel_rfl) (fun _ _ _ h => h) (by assumption) rfl ?hy7q8 ?rest7q8
      case hy7q8 => (intro wS hSw; (try dsimp only at hSw); go_simp; try with_reducible rfl)
      try simp only [Act.put, List.setIfInBounds_toArray, List.set_cons_zero, List.set_cons_succ]
      refine held_quiet 8 (v := ?v8q9) rfl (by kernel_rfl) (fun _ _ _ h => h) (by assumption) rfl ?hy8q9 ?rest8q9
      case hy8q9 => (intro wS hSw; (try dsimp only at hSw); go_simp; try with_reducible rfl)
      try simp only [Act.put, List.setIfInBounds_toArray, List.set_cons_zero, List.set_cons_succ]
      refine held_quiet 9 (v := ?v9q10) rfl (by kernel_rfl) (fun _ _ _ h => h) (by assumption) rfl ?hy9q10 ?rest9q10
      case hy9q10 => (intro wS hSw; (try dsimp only at hSw); go_simp; try with_reducible rfl)
      try simp only [Act.put, List.setIfInBounds_toArray, List.set_cons_zero, List.set_cons_succ]
      refine held_quiet 10 (v := ?v10q11) rfl (by kernel_rfl) (fun _ _ _ h => h) (by assumption) rfl ?hy10q11 ?rest10q11
      case hy10q11 => (intro wS hSw; (try dsimp only at hSw); go_simp; try with_reducible rfl)
      try simp only [Act.put, List.setIfInBounds_toArray, List.set_cons_zero, List.set_cons_succ]
      refine held_quiet 11 (v := ?v11q12) rfl (by kernel_rfl) (fun _ _ _ h => h) (by assumption) rfl ?hy11q12 ?rest11q12
      case hy11q12 => (intro wS hSw; (try dsimp only at hSw); go_simp; try with_reducible rfl)
      try simp only [Act.put, List.setIfInBounds_toArray, List.set_cons_zero, List.set_cons_succ]
      refine held_quiet 12 (v := ?v12q13) rfl (by kernel_rfl) (fun _ _ _ h => h) (by assumption) rfl ?hy12q13 ?rest12q13
      case hy12q13 => (intro wS hSw; (try dsimp only at hSw); go_simp; try with_reducible rfl)
      try simp only [Act.put, List.setIfInBounds_toArray, List.set_cons_zero, List.set_cons_succ]
      refine held_quiet 13 (v := ?v13q14) rfl (by kernel_rfl) (fun _ _ _ h => h) (by assumption) rfl ?hy13q14 ?rest13q14
      case hy13q14 => (intro wS hSw; (try dsimp only at hSw); go_simp; try with_reducible rfl)
      try simp only [Act.put, List.setIfInBounds_toArray, List.set_cons_zero, List.set_cons_succ]
      refine held_quiet 14 (v := ?v14q15) rfl (by kernel_rfl) (fun _ _ _ h => h) (by assumption) rfl ?hy14q15 ?rest14q15
      case hy14q15 => (intro wS hSw; (try dsimp only at hSw); go_simp; try with_reducible rfl)
      try simp only [Act.put, List.setIfInBounds_toArray, List.set_cons_zero, List.set_cons_succ]
      refine held_quiet 15 (v := ?v15q16) rfl (by kernel_rfl) (fun _ _ _ h => h) (by assumption) rfl ?hy15q16 ?rest15q16
      case hy15q16 => (intro wS hSw; (try dsimp only at hSw); go_simp; try with_reducible rfl)
      try simp only [Act.put, List.setIfInBounds_toArray, List.set_cons_zero, List.set_cons_succ]
      refine held_quiet 16 (v := ?v16q17) rfl (by kernel_rfl) (fun _ _ _ h => h) (by assumption) rfl ?hy16q17 ?rest16q17
      case hy16q17 => (intro wS hSw; (try dsimp only at hSw); go_simp; try with_reducible rfl)
      try simp only [Act.put, List.setIfInBounds_toArray, List.set_cons_zero, List.set_cons_succ]
      refine held_quiet 17 (v := ?v17q18) rfl (by kernel_rfl) (fun _ _ _ h => h) (by assumption) rfl ?hy17q18 ?rest17q18
      case hy17q18 => (intro wS hSw; (try dsimp only at hSw); go_simp; try with_reducible rfl)
      try simp only [Act.put, List.setIfInBounds_toArray, List.set_cons_zero, List.set_cons_succ]
      refine held_quiet 18 (v := ?v18q19) rfl (by kernel_rfl) (fun _ _ _ h => h) (by assumption) rfl ?hy18q19 ?rest18q19
      case hy18q19 => (intro wS hSw; (try dsimp only at hSw); go_simp; try with_reducible rfl)
      try simp only [Act.put, List.setIfInBounds_toArray, List.set_cons_zero, List.set_cons_succ]
      refine held_quiet 19 (v := ?v19q20) rfl (by kernel_rfl) (fun _ _ _ h => h) (by assumption) rfl ?hy19q20 ?rest19q20
      case hy19q20 => (intro wS hSw; (try dsimp only at hSw); go_simp; try with_reducible rfl)
      try simp only [Act.put, List.setIfInBounds_toArray, List.set_cons_zero, List.set_cons_succ]
      refine held_quiet 20 (v := ?v20q21) rfl (by kernel_rfl) (fun _ _ _ h => h) (by assumption) rfl ?hy20q21 ?rest20q21
      case hy20q21 => (intro wS hSw; (try dsimp only at hSw); go_simp; try with_reducible rfl)
      try simp only [Act.put, List.setIfInBounds_toArray, List.set_cons_zero, List.set_cons_succ]
      refine held_quiet 21 (v := ?v21q22) rfl (by kernel_rfl) (fun _ _ _ h => h) (by assumption) rfl ?hy21q22 ?rest21q22
      case hy21q22 => (intro wS hSw; (try dsimp only at hSw); go_simp; try with_reducible rfl)
      try simp only [Act.put, List.setIfInBounds_toArray, List.set_cons_zero, List.set_cons_succ]
      refine held_quiet 22 (v := ?v22q23) rfl (by kernel_rfl) (fun _ _ _ h => h) (by assumption) rfl ?hy22q23 ?rest22q23
      case hy22q23 => (intro wS hSw; (try dsimp only at hSw); go_simp; try with_reducible rfl)
      try simp only [Act.put, List.setIfInBounds_toArray, List.set_cons_zero, List.set_cons_succ]
      refine held_quiet 23 (v := ?v23q24) rfl (by kernel_rfl) (fun _ _ _ h => h) (by assumption) rfl ?hy23q24 ?rest23q24
      case hy23q24 => (intro wS hSw; (try dsimp only at hSw); go_simp; try with_reducible rfl)
      try simp only [Act.put, List.setIfInBounds_toArray, List.set_cons_zero, List.set_cons_succ]
      refine held_quiet 24 (v := ?v24q25) rfl (by kernel_rfl) (fun _ _ _ h => h) (by assumption) rfl ?hy24q25 ?rest24q25
      case hy24q25 => (intro wS hSw; (try dsimp only at hSw); go_simp; try with_reducible rfl)
      try simp only [Act.put, List.setIfInBounds_toArray, List.set_cons_zero, List.set_cons_succ]
      refine held_quiet 25 (v := ?v25q26) rfl (by kernel_rfl) (fun _ _ _ h => h) (by assumption) rfl ?hy25q26 ?rest25q26
      case hy25q26 => (intro wS hSw; (try dsimp only at hSw); go_simp; try with_reducible rfl)
      try simp only [Act.put, List.setIfInBounds_toArray, List.set_cons_zero, List.set_cons_succ]
      refine held_quiet 26 (v := ?v26q27) rfl (by kernel_rfl) (fun _ _ _ h => h) (by assumption) rfl ?hy26q27 ?rest26q27
      case hy26q27 => (intro wS hSw; (try dsimp only at hSw); go_simp; try with_reducible rfl)
      try simp only [Act.put, List.setIfInBounds_toArray, List.set_cons_zero, List.set_cons_succ]
      refine held_quiet 27 (v := ?v27q28) rfl (by kernel_rfl) (fun _ _ _ h => h) (by assumption) rfl ?hy27q28 ?rest27q28
      case hy27q28 => (intro wS hSw; (try dsimp only at hSw); go_simp; try with_reducible rfl)
      try simp only [Act.put, List.setIfInBounds_toArray, List.set_cons_zero, List.set_cons_succ]
      refine held_quiet 28 (v := ?v28q29) rfl (by kernel_rfl) (fun _ _ _ h => h) (by assumption) rfl ?hy28q29 ?rest28q29
      case hy28q29 => (intro wS hSw; (try dsimp only at hSw); go_simp; try with_reducible rfl)
      try simp only [Act.put, List.setIfInBounds_toArray, List.set_cons_zero, List.set_cons_succ]
      refine held_quiet 29 (v := ?v29q30) rfl (by kernel_rfl) (fun _ _ _ h => h) (by assumption) rfl ?hy29q30 ?rest29q30
      case hy29q30 => (intro wS hSw; (try dsimp only at hSw); go_simp; try with_reducible rfl)
      try simp only [Act.put, List.setIfInBounds_toArray, List.set_cons_zero, List.set_cons_succ]
      refine held_quiet 30 (v := ?v30q31) rfl (by kernel_rfl) (fun _ _ _ h => h) (by assumption) rfl ?hy30q31 ?rest30q31
      case hy30q31 => (intro wS hSw; (try dsimp only at hSw); go_simp; try with_reducible rfl)
      try simp only [Act.put, List.setIfInBounds_toArray, List.set_cons_zero, List.set_cons_succ]
      refine held_quiet 31 (v := ?v31q32) rfl (by kernel_rfl) (fun _ _ _ h => h) (by assumption) rfl ?hy31q32 ?rest31q32
      case hy31q32 => (intro wS hSw; (try dsimp only at hSw); go_simp; try with_reducible rfl)
      try simp only [Act.put, List.setIfInBounds_toArray, List.set_cons_zero, List.set_cons_succ]
      refine held_quiet 32 (v := ?v32q33) rfl (by kernel_rfl) (fun _ _ _ h => h) (by assumption) rfl ?hy32q33 ?rest32q33
      case hy32q33 => (intro wS hSw; (try dsimp only at hSw); go_simp; try with_reducible rfl)
      try simp only [Act.put, List.setIfInBounds_toArray, List.set_cons_zero, List.set_cons_succ]
      refine held_quiet 33 (v := ?v33q34) rfl (by kernel_rfl) (fun _ _ _ h => h) (by assumption) rfl ?hy33q34 ?rest33q34
      case hy33q34 => (intro wS hSw; (try dsimp only at hSw); go_simp; try with_reducible rfl)
      try simp only [Act.put, List.setIfInBounds_toArray, List.set_cons_zero, List.set_cons_succ]
      refine held_quiet 34 (v := ?v34q35) rfl (by kernel_rfl) (fun _ _ _ h => h) (by assumption) rfl ?hy34q35 ?rest34q35
      case hy34q35 => (intro wS hSw; (try dsimp only at hSw); go_simp; try with_reducible rfl)
      try simp only [Act.put, List.setIfInBounds_toArray, List.set_cons_zero, List.set_cons_succ]
      refine held_quiet 35 (v := ?v35q36) rfl (by kernel_rfl) (fun _ _ _ h => h) (by assumption) rfl ?hy35q36 ?rest35q36
      case hy35q36 => (intro wS hSw; (try dsimp only at hSw); go_simp; try with_reducible rfl)
      try simp only [Act.put, List.setIfInBounds_toArray, List.set_cons_zero, List.set_cons_succ]
      refine held_quiet 36 (v := ?v36q37) rfl (by kernel_rfl) (fun _ _ _ h => h) (by assumption) rfl ?hy36q37 ?rest36q37
      case hy36q37 => (intro wS hSw; (try dsimp only at hSw); go_simp; try with_reducible rfl)
      try simp only [Act.put, List.setIfInBounds_toArray, List.set_cons_zero, List.set_cons_succ]
      clear hS
      refine held_done (by kernel_rfl) ?_
      go_wp2
      go_roundg (n - (k + 1))
      case measure => have := HLT.out; omega
      case rel => exact ⟨k + 1, HLT.out, rfl, by go_num, HB.out.drew⟩
    case neg =>
      have hkn : k = n := by omega
      subst hkn
      have OWN : Hid (wr.ownsRow w2.heap.size 9 1 (.slice aL k cL) k (textVals k fun j => (Rc.someP fr l j).data)) := ownsRow_below HO5.out HB.out
      have hbs : w2.heap.size ≤ wr.heap.size := Nat.le_trans HSz5.out.2 HB.out.size
      have t1 : True := trivial
      clear hlt hk
      go_upto_region 14 with (first | (go_at_call 22; refine (hfull _).mono ?_; rintro e wR ⟨rfl, rfl⟩) | (at_builtin; go_loud (have _t := t1; refine wpList_append_own _ rfl _ _ 26 rfl w2.heap.size 9 i0 (.string ByteArray.empty) 1 16 Tryd.underlying26 hi hz0 hz1 hz2 rfl (by decide) (.slice aL k cL) k (textVals k fun j => (Rc.someP fr l j).data) rfl (OWN.out.alloc _) ⟨_, 0, none⟩ 1 1 [.string z] rfl rfl (cell_one_new _ _ _) (by simp [Value.oneCell']) (by unfold maxLen; omega) (by omega) (by simp; omega) ?_; intro v' w6 hown' hgrow _; obtain ⟨g', cap', rfl⟩ := ownsRow_succ hown'; have b6 := below_append OWN.out hbs hgrow; have HB6 : Hid (Below w2.heap.size wR w6) := b6; have OWN6 : Hid (w6.ownsRow w2.heap.size 9 1 (.slice (some ⟨g', 0, none⟩) (k + 1) cap') (k + 1) (textVals k (fun j => (Rc.someP fr l j).data) ++ [.string z])) := hown'; clear b6 hown' hgrow t1)))
      have hfe : textVals k (fun j => (Rc.someP fr l j).data) ++ [.string z] = textVals (k + 1) (fun j => if j < k then (Rc.someP fr l j).data else z) := by
        rw [← textVals_snoc, if_neg (Nat.lt_irrefl k)]
        congr 1
        exact textVals_congr fun j hj => by rw [if_pos hj]
      have hown6 := OWN6.out
      rw [hfe] at hown6
      obtain ⟨_, _, e6, hr6, hc6, _⟩ := RowS.of_owns hown6
      cases e6
      have HC6 : Hid _ := hc6
      have HR6 : Hid (RowS w6 (some ⟨g', 0, none⟩) (k + 1) (fun j => if j < k then (Rc.someP fr l j).data else z)) := hr6
      have HB7 : Hid (Below w'.heap.size w' w6) := HBw.out.trans (HB6.out.mono HSz5.out.1)
      have HG6 : Hid (∀ j, j < k + 1 → (if j < k then (Rc.someP fr l j).data else z).size ≤ 100) := fun j _ => by
        have h64 := HK.out.data j
        have hz6 := HZ.out
        show (if j < k then (Rc.someP fr l j).data else z).size ≤ 100
        split <;> omega
      clear hfe hown6 hr6 hc6 hbs
      go_wp2_with fail
      refine (HK.out.short _ _ (k + 1) _ _ (by omega) (by omega) HG6.out HC6.out HR6.out).mono ?_
      rintro e w8 ⟨q, r, a8, m8, c8, rfl, hb8⟩
      have HB8 : Hid (Below w'.heap.size w' w8) := below2 HB7.out hb8
      clear hb8
      go_wp2_with fail
      refine (hfull _).mono ?_
      rintro e w9 ⟨rfl, hw9⟩
      have HB9 : Hid (Below w'.heap.size w' w9) := by show Below _ _ _; rw [hw9]; exact HB8.out.alloc HB8.out.size _
      clear hw9
      go_wp2_with fail
      refine (HX2.out _).mono ?_
      rintro e w10 ⟨q2, r2, a10, m10, c10, rfl, hb10⟩
      have HB10 : Hid (Below w'.heap.size w' w10) := below2 HB9.out hb10
      clear hb10
      go_wp2_with fail
      refine (HX1.out _).mono ?_
      rintro e w11 ⟨q3, r3, a11, m11, c11, rfl, hb11⟩
      have HB11 : Hid (Below w'.heap.size w' w11) := (HB10.out.alloc HB10.out.size _).trans (hb11.mono (HB10.out.alloc HB10.out.size _).size)
      clear hb11
      go_wp2
      go_ret
      exact ⟨rfl, HB11.out.alloc HB11.out.size _⟩

set_option maxRecDepth 100000 in
set_option maxHeartbeats 4000000 in
/-- RecordHeads, over what is asked of the program -/
theorem heads12_says (X : RecSays) (seq row fr at_ by_ : Nat) (a : Option Addr) (n cap : Nat) (l : Nat → ByteArray) (w : World) (h0 : seq < 18446744073709551616) (h1 : row < 256) (h2 : fr < 256) (hr : RowS w a n l) (hm : ∀ j, j < n → (l j).size ≤ maxLen) (hn : n ≤ maxLen) :
    Calls Tryd.prog 6 #[.int .u64 (seq : Int), .int .u8 (row : Int), .int .u8 (fr : Int), .slice a n cap, .int .u8 (at_ : Int), .int .u8 (by_ : Int)] w fun e w' => e = .returned (.bool true) ∧ Below w.heap.size w w' := by
  by_cases hb : (1 ≤ n ∧ n ≤ 40) ∧ ∀ j, j < n → (l j).size ≤ 100
  · exact heads12_main X seq row fr by_ at_ a n cap l w h0 h1 h2 hr hb.1.1 hb.1.2 hb.2
  have hheavy := heavy12_any w a n cap l hr hm hn
  have hsh := fun W => shown12_any X W
  have HSh : Hid _ := hsh
  have HNb : Hid (¬ ((1 ≤ n ∧ n ≤ 40) ∧ ∀ j, j < n → (l j).size ≤ 100)) := hb
  clear hr hsh hb hm hn
  by_cases hk1 : (40 : Int) < (n : Int)
  · have hk2 : ((n : Int) == 0) = false := by rw [beq_eq_false_iff_ne]; omega
    go_enter Tryd.func6, Tryd.ntmps6
    go_wp2_with fail
    refine hheavy.mono ?_
    rintro e w' ⟨rfl, hcase⟩
    rcases hcase with rfl | ⟨rfl, _⟩
    all_goals
      go_wp2_with fail
      refine (HSh.out _).mono ?_
      rintro e w2 ⟨rfl, hb⟩
      have HB : Hid _ := hb
      clear hb
      go_wp2
      go_ret
      exact ⟨rfl, HB.out⟩
  · by_cases hk0 : n = 0
    · subst hk0
      go_enter Tryd.func6, Tryd.ntmps6
      go_wp2_with fail
      refine hheavy.mono ?_
      rintro e w' ⟨rfl, hcase⟩
      rcases hcase with rfl | ⟨rfl, _⟩
      all_goals
        go_wp2_with fail
        refine (HSh.out _).mono ?_
        rintro e w2 ⟨rfl, hb⟩
        have HB : Hid _ := hb
        clear hb
        go_wp2
        go_ret
        exact ⟨rfl, HB.out⟩
    · have hk2 : ((n : Int) == 0) = false := by rw [beq_eq_false_iff_ne]; omega
      go_enter Tryd.func6, Tryd.ntmps6
      go_wp2_with fail
      refine hheavy.mono ?_
      rintro e w' ⟨rfl, hcase⟩
      rcases hcase with rfl | ⟨rfl, hl⟩
      · go_wp2_with fail
        refine (HSh.out _).mono ?_
        rintro e w2 ⟨rfl, hb⟩
        have HB : Hid _ := hb
        clear hb
        go_wp2
        go_ret
        exact ⟨rfl, HB.out⟩
      · exact absurd ⟨⟨by omega, by omega⟩, hl.2⟩ HNb.out
theorem heads12_walk (X : RecSays) (w : World) (a0 : Int) (w0 : (Lit.int .u64 a0).wf = true) (a1 : Int) (w1 : (Lit.int .u8 a1).wf = true) (a2 : Int) (w2 : (Lit.int .u8 a2).wf = true) (a3 : Option Addr) (len3 cap3 : Nat) (z3 : List ByteArray) (w3 : IsStrs w a3 len3 cap3 z3) (a4 : Int) (w4 : (Lit.int .u8 a4).wf = true) (a5 : Int) (w5 : (Lit.int .u8 a5).wf = true) :
    Calls Tryd.prog 6 #[.int .u64 a0, .int .u8 a1, .int .u8 a2, .slice a3 len3 cap3, .int .u8 a4, .int .u8 a5] w fun e w' => e = .returned (.bool true) ∧ Below w.heap.size w w' := by
  obtain ⟨s, rfl, h0⟩ := nat12_u64 w0
  obtain ⟨r, rfl, h1⟩ := nat12_u8 w1
  obtain ⟨f, rfl, h2⟩ := nat12_u8 w2
  obtain ⟨l, hm, hs, hr⟩ := w3.open12
  obtain ⟨at_, rfl, h4⟩ := nat12_u8 w4
  obtain ⟨by_, rfl, h5⟩ := nat12_u8 w5
  exact heads12_says X s r f at_ by_ a3 len3 cap3 l w h0 h1 h2 hr hs hm
end Go.Proofs.YtmikllmpinciiaaDoor
namespace Go.Proofs.YtmikllmpinciiaaDoor.recordHeads
open Go.ChangeShapes Go.WideShapes Go.ChangeAt Go.RowKit
open Go.ChangeMaps (open_string shut_string)

theorem of_laid {W : World} (_ : laidMetH Tryd.prog Rows.recordHeadsRow.laid W) : True := trivial
theorem walk (w : World) (a0 : Int) (w0 : (Lit.int .u64 a0).wf = true) (a1 : Int) (w1 : (Lit.int .u8 a1).wf = true) (a2 : Int) (w2 : (Lit.int .u8 a2).wf = true) (a3 : Option Addr) (len3 cap3 : Nat) (z3 : List ByteArray) (w3 : IsStrs w a3 len3 cap3 z3) (a4 : Int) (w4 : (Lit.int .u8 a4).wf = true) (a5 : Int) (w5 : (Lit.int .u8 a5).wf = true) (_ : True) :
    Calls Tryd.prog 6 #[.int .u64 a0, .int .u8 a1, .int .u8 a2, .slice a3 len3 cap3, .int .u8 a4, .int .u8 a5] w fun e w' => e = .returned (.bool true) ∧ Below w.heap.size w w' := heads12_walk rec_says w a0 w0 a1 w1 a2 w2 a3 len3 cap3 z3 w3 a4 w4 a5 w5

theorem own : ownKnob Tryd.prog.godebug = none := by kernel_rfl
theorem laidOut : laidOutB Tryd.prog = true := by kernel_rfl
theorem door_met (os : Os) (args : Array Value) : laidMetH Tryd.prog Rows.recordHeadsRow.laid ((World.laidAll Tryd.prog os Rows.recordHeadsRow.laid).forCall (fun _ _ => 0) ⟨#[], args, []⟩).memory := by
  rw [MakeChecks.laidMetH_plain _ _ _ (by kernel_rfl)]
  exact laidMet_laidAll _ (by kernel_rfl) (by kernel_rfl)
set_option linter.unusedVariables false in
set_option maxRecDepth 100000 in
theorem lifted (os : Os) (started : os.Started) (H : Type) (enc : TypeId × Value → H) :
    ReturnsInHanded {} Tryd.checked os 6 .any (fun w args => (Rows.recordHeadsSpec.pre enc Tryd.prog Tryd.f6 [] false w args ∧ laidMetH Tryd.prog Rows.recordHeadsRow.laid w) ∧ sizedMet enc Tryd.prog Tryd.f6 (OpenSpec.ofChange Rows.recordHeadsSpec) false w args) (Rows.recordHeadsSpec.post enc Tryd.prog Tryd.f6 false true false false) := by
  refine returnsInHanded_of_change_and (C := Tryd.checked) (X := fun w _ => laidMetH Tryd.prog Rows.recordHeadsRow.laid w) (fun _ _ _ hh h => h.of_heap hh) own started (by kernel_rfl) Tryd.func6
    (ChangeSpec.witness_shaped (enc := enc) (C := Tryd.checked) (os := os) (X := fun w _ => laidMetH Tryd.prog Rows.recordHeadsRow.laid w) false (World.laidAll Tryd.prog os Rows.recordHeadsRow.laid) #[.int .u64 0, .int .u8 0, .int .u8 0, .slice none 0 0, .int .u8 0, .int .u8 0] 8 (World.laidAll_os _ _ _) (World.shaped_of_ZipB (by kernel_rfl) (by kernel_rfl)) (by kernel_rfl) (by kernel_rfl) (by kernel_rfl) (door_met os _)) ?_
  intro W base args ds gs before hval0 hW _ _ hL _
  have hval : ∀ (j : Nat) t v, Tryd.f6.params[j]? = some t → args[j]? = some v → Value.okWide Tryd.prog W .any base t v := hval0
  have hW' := hW
  obtain ⟨p, q, hA0, hV, rfl, hfz, hnd⟩ := hW
  have hA : DataW.TrodAll enc Tryd.prog W 0 (fun _ => true) true Tryd.f6.params.toList args.toList ds p := hA0
  rw [Tryd.params6] at hA hval
  obtain ⟨v0, vs0, d0, ds0, p0, q0, hargs, rfl, rfl, h0, r0⟩ := trodAll_cons hA
  obtain ⟨v1, vs1, d1, ds1, p1, q1, rfl, rfl, rfl, h1, r1⟩ := trodAll_cons r0
  obtain ⟨v2, vs2, d2, ds2, p2, q2, rfl, rfl, rfl, h2, r2⟩ := trodAll_cons r1
  obtain ⟨v3, vs3, d3, ds3, p3, q3, rfl, rfl, rfl, h3, r3⟩ := trodAll_cons r2
  obtain ⟨v4, vs4, d4, ds4, p4, q4, rfl, rfl, rfl, h4, r4⟩ := trodAll_cons r3
  obtain ⟨v5, vs5, d5, ds5, p5, q5, rfl, rfl, rfl, h5, r5⟩ := trodAll_cons r4
  obtain ⟨rfl, rfl, rfl⟩ := trodAll_nil r5
  obtain rfl : args = #[v0, v1, v2, v3, v4, v5] := by cases args; simp_all
  obtain ⟨rfl, rfl⟩ := trodVars_none hV
  obtain ⟨a0, rfl, rfl, rfl, w0⟩ := open_int Tryd.underlying22 (hval 0 22 v0 rfl rfl) h0
  obtain ⟨a1, rfl, rfl, rfl, w1⟩ := open_int Tryd.underlying5 (hval 1 5 v1 rfl rfl) h1
  obtain ⟨a2, rfl, rfl, rfl, w2⟩ := open_int Tryd.underlying5 (hval 2 5 v2 rfl rfl) h2
  obtain ⟨a3, len3, cap3, rfl⟩ := okWide_slice Tryd.underlying26 (hval 3 26 v3 rfl rfl)
  have k3 := h3
  have lt3 : ∀ x ∈ p3, x.block < W.heap.size := by obtain ⟨m, hm⟩ := k3; exact DataW.trod_lt m _ _ _ hm
  obtain ⟨z3, w3⟩ : ∃ zs, IsStrs W a3 len3 cap3 zs := by
    obtain ⟨fuel, hf⟩ := h3
    rcases open_strings Tryd.underlying26 Tryd.underlying9 (by kernel_rfl) hf with ⟨hcs, _⟩ | ⟨x, l, c, zs, hcs, _, hl, hm, hz, _, hcell, hwz⟩
    · simp [Value.cells] at hcs
      obtain ⟨rfl, rfl, rfl⟩ := hcs
      exact ⟨[], .inl ⟨rfl, rfl, rfl, rfl⟩⟩
    · simp [Value.cells] at hcs
      obtain ⟨rfl, rfl, rfl⟩ := hcs
      exact ⟨zs, .inr ⟨_, rfl, hl, hm, by simpa using hz, hcell, hwz⟩⟩
  obtain ⟨a4, rfl, rfl, rfl, w4⟩ := open_int Tryd.underlying5 (hval 4 5 v4 rfl rfl) h4
  obtain ⟨a5, rfl, rfl, rfl, w5⟩ := open_int Tryd.underlying5 (hval 5 5 v5 rfl rfl) h5
  clear hA0 hval0
  simp only [List.append_nil] at hW'
  refine (walk W a0 w0 a1 w1 a2 w2 a3 len3 cap3 z3 w3 a4 w4 a5 w5 (of_laid hL)).mono fun e W' ⟨he, hg⟩ => ?_
  subst he
  exact ⟨_, rfl, _, _, _, [], _, [], hW', trodAll_mk1 (shut_bool Tryd.underlying4 _), (trodAll_cons_mk (shut_int Tryd.underlying22 w0) (trodAll_cons_mk (shut_int Tryd.underlying5 w1) (trodAll_cons_mk (shut_int Tryd.underlying5 w2) (trodAll_cons_mk (Below.trod laidOut (by kernel_rfl) (of_decide_eq_true (by kernel_rfl)) k3 hg lt3) (trodAll_cons_mk (shut_int Tryd.underlying5 w4) (trodAll_cons_mk (shut_int Tryd.underlying5 w5) trodAll_mk0)))))), rfl, hg.frame _, fun h => by cases h⟩
/-- The row: for every input, where the listed tables read as their initialisers lay them, the law returns true, and each argument reads as it did. -/
theorem row_proved : Rows.RecordHeadsSaid :=
  OpenClaim.holds_of_wide 6 Tryd.f6 rfl rfl rfl rfl rfl rfl rfl ⟨rfl, rfl, rfl, rfl, rfl⟩ rfl rfl rfl rfl rfl (by kernel_rfl) Tryd.func6 (by kernel_rfl)
    (of_decide_eq_true (by kernel_rfl)) (by unfold Func.isWrapper; first | (rw [if_pos (by decide +kernel)]; kernel_rfl) | (rw [if_neg (by decide +kernel)]; exact ⟨rfl, rfl⟩))
    (fun os started H enc _ => lifted os started H enc)
/-- For every input the law returns true, and each argument reads as it did; what the listed tables hold is tied to the program's text. -/
theorem proved : Rows.RecordHeadsCardSaid :=
  Claim7.holds_tied_plain_at .later [] [.data, .pinned] true (true, "1ae6a37698d2e24b5c769eff56949aa43403232362c262ec4616dca1f2bd7c63") false
    row_proved (fun _ h => by cases h) (by kernel_rfl) (fun _ h => by cases h) recordHeads_row_tie rfl ⟨rfl, rfl⟩ (by kernel_rfl) rfl
    (fun f fn hf hfn => by
      obtain rfl : f = 6 := Option.some.inj ((show Tryd.prog.funcNamed "revetment/revetmentlaw12.RecordHeads" = some 6 by kernel_rfl).symm.trans hf) |>.symm
      obtain rfl : fn = Tryd.f6 := (Option.some.inj (Tryd.func6.symm.trans hfn)).symm
      exact ⟨by kernel_rfl, fun j t ht => by
        rw [Tryd.params6] at ht
        have hm : t ∈ [22, 5, 5, 26, 5, 5] := by simpa using Array.mem_of_getElem? ht
        have hall : ([22, 5, 5, 26, 5, 5].all fun u => !Tryd.prog.wantsStandIn u) = true := by kernel_rfl
        exact (show Tryd.prog.wantsStandIn t = false by simpa using List.all_eq_true.1 hall t hm)⟩)
    (by kernel_rfl)
end Go.Proofs.YtmikllmpinciiaaDoor.recordHeads
