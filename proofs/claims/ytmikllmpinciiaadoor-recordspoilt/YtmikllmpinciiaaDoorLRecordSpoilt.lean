/- For every record that may be and every byte that is another one the law RecordSpoilt returns true: a head with one byte that is another one is none, and a load with one byte so is not its. Conditions: the library's tables that strings.Trim's code names, which the call never reads at these texts, hold what they are laid with (tied to the program's text by the card). -/
import Derived.Test.YtmikllmpinciiaaDoorRecFlip
import Derived.BigRegion
import Derived.Test.YtmikllmpinciiaaDoorRecInts
import Derived.Test.YtmikllmpinciiaaDoorMRkB
import Derived.Test.YtmikllmpinciiaaDoorCards
import Derived.Test.YtmikllmpinciiaaDoorTie
import Derived.ProofKit
import Derived.OpenShut
import Derived.ShutString
import Derived.Lay
import Derived.LaidOnce
import Derived.Stop.Joined
import Derived.SevenTiedAt
namespace Go.Proofs.YtmikllmpinciiaaDoor
open Go.RowKit

/-- a row of the call's own that holds something stands in a block -/
theorem owns_some12 {w : World} {b t n : Nat} {v : Value} {l : List Value} (h : w.ownsRow b t 1 v n l) (hn : 1 ≤ n) : ∃ g cap, v = .slice (some ⟨g, 0, none⟩) n cap ∧ b ≤ g ∧ n ≤ cap := by
  rcases h.2 with ⟨rfl, h0⟩ | ⟨g, cap, cur, rfl, hg, _, hc, _⟩
  · omega
  · exact ⟨g, cap, rfl, hg, hc⟩
theorem textVals_put (n r : Nat) (f : Nat → ByteArray) (t : ByteArray) : (textVals n f).set r (.string t) = textVals n (fun j => if j = r then t else f j) := by
  refine List.ext_getElem? fun j => ?_
  rw [List.getElem?_set, textVals_length]
  unfold textVals
  by_cases h : r = j
  · subst h
    by_cases hn : r < n
    · simp [hn]
    · simp [hn]
  · rw [if_neg h]
    by_cases hn : j < n
    · simp [hn, show ¬ j = r from fun e => h e.symm]
    · simp [hn]

set_option maxRecDepth 100000 in
set_option maxHeartbeats 8000000 in
theorem spoilt12_main (X : RecSays) (seq row fr at_ by_ : Nat) (a : Option Addr) (n cap : Nat) (l : Nat → ByteArray) (w : World) (h0 : seq < 18446744073709551616) (h1 : row < 256) (h2 : fr < 256) (hat : at_ < 65536) (hby : by_ < 256) (hb0 : by_ ≠ 0) (hr : RowS w a n l) (n1 : 1 ≤ n) (n40 : n ≤ 40) (hl : ∀ j, j < n → (l j).size ≤ 100) :
    Calls Tryd.prog 5 #[.int .u64 (seq : Int), .int .u8 (row : Int), .int .u8 (fr : Int), .slice a n cap, .int .u16 (at_ : Int), .int .u8 (by_ : Int)] w fun e w' => e = .returned (.bool true) ∧ Below w.heap.size w w' := by
  have hheavy := heavy12_any w a n cap l hr (fun j hj => Nat.le_trans (hl j hj) (by unfold maxLen; decide)) (by unfold maxLen; omega)
  have hK := known12 X seq row fr n l h0 h1 h2 n1 n40 hl
  have hnn : Rc.someN n = n := by unfold Rc.someN; omega
  have hM : Rc.mayB (row : Int) n (Rc.someP fr l) = true := by have := Rc.someP_may (fr := fr) (l := l) h1 n1; rw [hnn] at this; exact this
  obtain ⟨i, hi⟩ : ∃ i : Nat, i = at_ % 64 := ⟨_, rfl⟩
  obtain ⟨d, hd⟩ : ∃ d : Nat, d = at_ / 64 := ⟨_, rfl⟩
  obtain ⟨k, hk⟩ : ∃ k : Nat, k = d % n := ⟨_, rfl⟩
  have hkn : k < n := by rw [hk]; exact Nat.mod_lt _ (by omega)
  have hi64 : i < 64 := by omega
  have hd1k : d < 1024 := by omega
  have hwd : IntKind.i64.wrap (d : Int) = (d : Int) := by rw [IntKind.wrap_i64]; omega
  have hr0 : (at_ : Int).tmod 64 = (i : Int) := by rw [hi, Int.tmod_eq_emod_of_nonneg (by omega)]; omega
  have hr1 : (at_ : Int).tdiv 64 = (d : Int) := by rw [hd]; exact (Int.ofNat_tdiv at_ 64).symm
  have hr2 : (d : Int).tmod (n : Int) = (k : Int) := by rw [hk]; exact (Int.ofNat_tmod d n).symm
  obtain ⟨s, hs⟩ : ∃ s, s = (Rc.someP fr l k).data := ⟨_, rfl⟩
  have hsz : s.size = 64 := by rw [hs]; exact hK.data k
  have hil2 : i < s.size := by omega
  obtain ⟨c2, t2, hc2, ht2, hf2, hx2⟩ := flip12 s hsz i by_ hi64 hby hb0 hil2
  have hbad := Rc.dec_flip (t := t2) (i := i) h0 hM hkn (hs ▸ hf2)
  obtain ⟨h, hh⟩ : ∃ h, h = Rc.headS seq (row : Int) n (Rc.someP fr l) (Rc.sumF n (Rc.someP fr l)) := ⟨_, rfl⟩
  rw [← hh] at hK hbad
  have hsize := hK.size
  have hil : i < h.size := by omega
  obtain ⟨c, t, hc, ht, hf, hx⟩ := flip12 h hsize i by_ hi64 hby hb0 hil
  have ht80 := hf.shut hsize hK.opens
  have hd1 := dec_none X (b := t) (m := n) (k := 80) (g := fun j => (Rc.someP fr l j).data) (by rw [hf.size]; decide) (by omega) (fun j _ => by have := hK.data j; omega) ((Rc.decE_head (by rw [ht80]; decide)).trans ht80)
  have hd2 := dec_none X (b := h) (m := n) (k := 80) (g := fun j => if j = k then t2 else (Rc.someP fr l j).data) (by omega) (by omega) (fun j _ => by
    have := hK.data j
    have := hf2.size
    show (if j = k then t2 else (Rc.someP fr l j).data).size ≤ 100
    split <;> omega) hbad
  have hcv : ∀ (W : World) (g : Nat), W.cell? ⟨g, 0, none⟩ = some (.int .u8 ((h[i].toNat ^^^ by_ : Nat) : Int)) → (convert 55 9 (.slice (some ⟨g, 0, none⟩) 1 1)).run Tryd.prog W = .ok (.string ⟨#[c]⟩) W := by
    intro W g hg
    rw [← hc] at hg
    refine run_convert_bytes_back _ _ _ 5 _ 1 [c] Tryd.underlying55 Tryd.underlying5 Tryd.underlying9 fun j hj => ?_
    have hj0 : j = 0 := by simpa using hj
    subst hj0
    simpa [Addr.add] using hg
  have hcv2 : ∀ W : World, (convert 55 9 (.slice (some ⟨W.heap.size, 0, none⟩) 1 1)).run Tryd.prog (W.alloc (.cells #[.int .u8 ((s[i].toNat ^^^ by_ : Nat) : Int)] 5)).drew = .ok (.string ⟨#[c2]⟩) (W.alloc (.cells #[.int .u8 ((s[i].toNat ^^^ by_ : Nat) : Int)] 5)).drew := by
    intro W
    rw [← hc2]
    refine run_convert_bytes_back _ _ _ 5 _ 1 [c2] Tryd.underlying55 Tryd.underlying5 Tryd.underlying9 fun j hj => ?_
    have hj0 : j = 0 := by simpa using hj
    subst hj0
    exact cell_one_new _ _ _ 0 _ rfl
  have HK : Hid (Known12 seq row fr n l h) := hK
  have HSh : Hid _ := fun W => shown12_any X W
  have HD1 : Hid _ := hd1
  have HD2 : Hid _ := hd2
  have HS : Hid (s = (Rc.someP fr l k).data) := hs
  have HRow : Hid (RowS w a n l) := hr
  have x1 := u8_xor_nat h[i].toNat by_ h[i].toNat_lt hby
  have x2 := u8_xor_nat s[i].toNat by_ s[i].toNat_lt hby
  have HMX : Hid (Tryd.prog.follows .mixedOrders = true) := by show _ = _; kernel_rfl
  have HCv : Hid _ := hcv
  have HCv2 : Hid _ := hcv2
  have HX2 : Hid _ := x2
  have HT2 : Hid (s.extract 0 i ++ ⟨#[c2]⟩ ++ s.extract (i + 1) 64 = t2) := ht2
  have hi1 : (i : Int) ≤ 64 := by omega
  have hi2 : (i : Int) < 64 := by omega
  have hi3 : (i : Int) + 1 ≤ 64 := by omega
  have hi5 : 0 ≤ (i : Int) + 1 := by omega
  have hi6 : ¬ 9223372036854775807 < min i 64 + 1 := by omega
  have hi7 : ¬ 9223372036854775807 < min i 64 + 1 + (63 - i) := by omega
  have hi4 : IntKind.i64.wrap ((i : Int) + 1) = (i : Int) + 1 := by rw [IntKind.wrap_i64]; omega
  have hca : IntKind.i64.wrap (at_ : Int) = (at_ : Int) := by rw [IntKind.wrap_i64]; omega
  have hAz : (h.size : Int) = 64 := by omega
  have hk1 : ¬ (40 : Int) < (n : Int) := by omega
  have hk2 : ((n : Int) == 0) = false := by rw [beq_eq_false_iff_ne]; omega
  have hk3 : ((by_ : Int) == 0) = false := by rw [beq_eq_false_iff_ne]; omega
  obtain ⟨i0, hi', hz0, hz1, hz2⟩ := info_parts info_str
  clear hr hh hK hd1 hd2 hs hM hbad ht80 hf hf2 hc hc2 hcv hcv2 x2 ht2 hi hd hk hx2
  go_enter Tryd.func5, Tryd.ntmps5
  go_wp2_with fail
  refine hheavy.mono ?_
  rintro e w' ⟨rfl, hcase⟩
  rcases hcase with rfl | ⟨rfl, _⟩
  · go_wp2_with fail
    refine (HSh.out _).mono ?_
    rintro e w2 ⟨rfl, hb⟩
    have HB : Hid _ := hb
    clear hb
    go_wp2
    go_ret
    exact ⟨rfl, HB.out⟩
  · go_wp2_with fail
    refine (HSh.out _).mono ?_
    rintro e w0 ⟨rfl, hb0'⟩
    have HB0 : Hid (Below w'.heap.size w' w0) := hb0'
    have HRow0 : Hid (RowS w0 a n l) := HRow.out.below hb0'
    clear hb0' hheavy
    go_wp2_with fail
    refine (HK.out.some _ _ _ HRow0.out).mono ?_
    rintro e w1 ⟨a1, c1, rfl, hp1, _, _, hb1⟩
    have HB1 : Hid (Below w'.heap.size w' w1) := below2 HB0.out hb1
    have HP1 : Hid (PartsR w1 a1 n (Rc.someP fr l)) := hp1
    clear hp1 hb1
    go_wp2_with fail
    refine (HK.out.enc _ _ _ HP1.out).mono ?_
    rintro e w3 ⟨aL, cL, rfl, _, hr3, hcL, hb3⟩
    have HR3 : Hid (RowS w3 aL n (fun j => (Rc.someP fr l j).data)) := hr3
    have HB3 : Hid (Below w'.heap.size w' w3) := below2 HB1.out hb3
    have HCL : Hid (n ≤ cL) := hcL
    clear hr3 hb3 hcL HP1
    go_upto_region 7 with fail
    refine wp_region_held (S := fun _ => True) HMX.out ?_
    have hS0 : (fun _ : World => True) w3.drew := trivial
    change wpAnyH _ _ _ _ _ _ _ _ w3.drew
    refine held_quiet 0 (v := ?v0q1) rfl (by kernel_rfl) (fun _ _ _ h => h) (by assumption) rfl ?hy0q1 ?rest0q1
    case hy0q1 => (intro wS hSw; (try dsimp only at hSw); go_simp; try with_reducible rfl)
    try simp only [Act.put, List.setIfInBounds_toArray, List.set_cons_zero, List.set_cons_succ]
    refine held_quiet 1 (v := ?v1q2) rfl (by kernel_rfl) (fun _ _ _ h => h) (by assumption) rfl ?hy1q2 ?rest1q2
    case hy1q2 => (intro wS hSw; (try dsimp only at hSw); go_simp; try with_reducible rfl)
    try simp only [Act.put, List.setIfInBounds_toArray, List.set_cons_zero, List.set_cons_succ]
    refine held_quiet 2 (v := ?v2q3) rfl (by kernel_rfl) (fun _ _ _ h => h) (by assumption) rfl ?hy2q3 ?rest2q3
    case hy2q3 => (intro wS hSw; (try dsimp only at hSw); go_simp; try with_reducible rfl)
    try simp only [Act.put, List.setIfInBounds_toArray, List.set_cons_zero, List.set_cons_succ]
    refine held_quiet 3 (v := ?v3q4) rfl (by kernel_rfl) (fun _ _ _ h => h) (by assumption) rfl ?hy3q4 ?rest3q4
    case hy3q4 => (intro wS hSw; (try dsimp only at hSw); go_simp; try with_reducible rfl)
    try simp only [Act.put, List.setIfInBounds_toArray, List.set_cons_zero, List.set_cons_succ]
    refine held_quiet 4 (v := ?v4q5) rfl (by kernel_rfl) (fun _ _ _ h => h) (by assumption) rfl ?hy4q5 ?rest4q5
    case hy4q5 => (intro wS hSw; (try dsimp only at hSw); go_simp; try with_reducible rfl)
    try simp only [Act.put, List.setIfInBounds_toArray, List.set_cons_zero, List.set_cons_succ]
    refine held_quiet 5 (v := ?v5q6) rfl (by kernel_rfl) (fun _ _ _ h => h) (by assumption) rfl ?hy5q6 ?rest5q6
    case hy5q6 => (intro wS hSw; (try dsimp only at hSw); go_simp; try with_reducible rfl)
    try simp only [Act.put, List.setIfInBounds_toArray, List.set_cons_zero, List.set_cons_succ]
    refine held_quiet 6 (v := ?v6q7) rfl (by kernel_rfl) (fun _ _ _ h => h) (by assumption) rfl ?hy6q7 ?rest6q7
    case hy6q7 => (intro wS hSw; (try dsimp only at hSw); go_simp; try with_reducible rfl)
    try simp only [Act.put, List.setIfInBounds_toArray, List.set_cons_zero, List.set_cons_succ]
    refine held_quiet 7 (v := ?v7q8) rfl (by kernel_rfl) (fun _ _ _ h => h) (by assumption) rfl ?hy7q8 ?rest7q8
    case hy7q8 => (intro wS hSw; (try dsimp only at hSw); go_simp; try with_reducible rfl)
    try simp only [Act.put, List.setIfInBounds_toArray, List.set_cons_zero, List.set_cons_succ]
    refine held_quiet 11 (v := ?v11q9) rfl (by kernel_rfl) (fun _ _ _ h => h) (by assumption) rfl ?hy11q9 ?rest11q9
    case hy11q9 => (intro wS hSw; (try dsimp only at hSw); go_simp; try with_reducible rfl)
    try simp only [Act.put, List.setIfInBounds_toArray, List.set_cons_zero, List.set_cons_succ]
    refine held_quiet 12 (v := ?v12q10) rfl (by kernel_rfl) (fun _ _ _ h => h) (by assumption) rfl ?hy12q10 ?rest12q10
    case hy12q10 => (intro wS hSw; (try dsimp only at hSw); go_simp; try with_reducible rfl)
    try simp only [Act.put, List.setIfInBounds_toArray, List.set_cons_zero, List.set_cons_succ]
    refine held_quiet 13 (v := ?v13q11) rfl (by kernel_rfl) (fun _ _ _ h => h) (by assumption) rfl ?hy13q11 ?rest13q11
    case hy13q11 => (intro wS hSw; (try dsimp only at hSw); go_simp; try with_reducible rfl)
    try simp only [Act.put, List.setIfInBounds_toArray, List.set_cons_zero, List.set_cons_succ]
    refine held_quiet 14 (v := ?v14q12) rfl (by kernel_rfl) (fun _ _ _ h => h) (by assumption) rfl ?hy14q12 ?rest14q12
    case hy14q12 => (intro wS hSw; (try dsimp only at hSw); go_simp; try with_reducible rfl)
    try simp only [Act.put, List.setIfInBounds_toArray, List.set_cons_zero, List.set_cons_succ]
    refine held_quiet 16 (v := ?v16q13) rfl (by kernel_rfl) (fun _ _ _ h => h) (by assumption) rfl ?hy16q13 ?rest16q13
    case hy16q13 => (intro wS hSw; (try dsimp only at hSw); go_simp; try with_reducible rfl)
    try simp only [Act.put, List.setIfInBounds_toArray, List.set_cons_zero, List.set_cons_succ]
    refine held_two 8 21 rfl rfl (by kernel_rfl) ?_ ?_
    · go_wp2
      try refine ⟨trivial, ?_⟩
      have h8 := HCv.out (w3.alloc (Obj.cells #[.int .u8 ((h[i].toNat ^^^ by_ : Nat) : Int)] 5)).drew w3.heap.size (World.cell?_alloc_mark w3 _ _ (0, 0) 0)
      refine held_two 9 21 rfl rfl (by kernel_rfl) ?_ ?_
      · go_wp2
        try refine ⟨trivial, ?_⟩
        have HB4 : Hid (Below w3.heap.size w3 (w3.alloc (Obj.cells #[.int .u8 ((h[i].toNat ^^^ by_ : Nat) : Int)] 5))) := (Below.refl _ w3).alloc (Nat.le_refl _) _
        clear h8
        generalize (w3.alloc (Obj.cells #[.int .u8 ((h[i].toNat ^^^ by_ : Nat) : Int)] 5)) = w4 at *
        refine held_quiet 10 (v := ?v10q14) rfl (by kernel_rfl) (fun _ _ _ h => h) (by assumption) rfl ?hy10q14 ?rest10q14
        case hy10q14 => (intro wS hSw; (try dsimp only at hSw); go_simp; try with_reducible rfl)
        try simp only [Act.put, List.setIfInBounds_toArray, List.set_cons_zero, List.set_cons_succ]
        refine held_quiet 15 (v := ?v15q15) rfl (by kernel_rfl) (fun _ _ _ h => h) (by assumption) rfl ?hy15q15 ?rest15q15
        case hy15q15 => (intro wS hSw; (try dsimp only at hSw); go_simp; try with_reducible rfl)
        try simp only [Act.put, List.setIfInBounds_toArray, List.set_cons_zero, List.set_cons_succ]
        refine held_two 17 21 rfl rfl (by kernel_rfl) ?_ ?_
        · go_wp2_with (go_at_call 15; refine (HD1.out _ _ _ HCL.out (HR3.out.below (HB4.out.drew))).mono ?_; rintro e w6 ⟨q, r, a6, m6, c6, rfl, hb6⟩)
          try refine ⟨trivial, ?_⟩
          have HB6 : Hid (Below w3.heap.size w3 w6) := below2 (HB4.out.drew) hb6
          clear hb6
          refine held_quiet 18 (v := ?v18q16) rfl (by kernel_rfl) (fun _ _ _ h => h) (by assumption) rfl ?hy18q16 ?rest18q16
          case hy18q16 => (intro wS hSw; (try dsimp only at hSw); go_simp; try with_reducible rfl)
          try simp only [Act.put, List.setIfInBounds_toArray, List.set_cons_zero, List.set_cons_succ]
          refine held_quiet 19 (v := ?v19q17) rfl (by kernel_rfl) (fun _ _ _ h => h) (by assumption) rfl ?hy19q17 ?rest19q17
          case hy19q17 => (intro wS hSw; (try dsimp only at hSw); go_simp; try with_reducible rfl)
          try simp only [Act.put, List.setIfInBounds_toArray, List.set_cons_zero, List.set_cons_succ]
          refine held_quiet 20 (v := ?v20q18) rfl (by kernel_rfl) (fun _ _ _ h => h) (by assumption) rfl ?hy20q18 ?rest20q18
          case hy20q18 => (intro wS hSw; (try dsimp only at hSw); go_simp; try with_reducible rfl)
          try simp only [Act.put, List.setIfInBounds_toArray, List.set_cons_zero, List.set_cons_succ]
          refine held_one 21 rfl (by kernel_rfl) ?_
          go_wp2
          try refine ⟨trivial, ?_⟩
          refine held_one 22 rfl (by kernel_rfl) ?_
          go_wp2
          try refine ⟨trivial, ?_⟩
          refine held_quiet 23 (v := ?v23q19) rfl (by kernel_rfl) (fun _ _ _ h => h) (by assumption) rfl ?hy23q19 ?rest23q19
          case hy23q19 => (intro wS hSw; (try dsimp only at hSw); go_simp; try with_reducible rfl)
          try simp only [Act.put, List.setIfInBounds_toArray, List.set_cons_zero, List.set_cons_succ]
          refine held_done (by kernel_rfl) ?_
          have HBz : Hid (Below w3.heap.size w3 (w6.alloc (Obj.cells #[.int .u64 q, .int .i64 r, .slice a6 m6 c6] 25))) := HB6.out.alloc HB6.out.size _
          generalize (w6.alloc (Obj.cells #[.int .u64 q, .int .i64 r, .slice a6 m6 c6] 25)) = wz at *
          have HRz : Hid (RowS wz aL n (fun j => (Rc.someP fr l j).data)) := HR3.out.below HBz.out
          have HBw : Hid (Below w'.heap.size w' wz) := below2 HB3.out HBz.out
          obtain ⟨b, o, rfl, hck⟩ := HRz.out k hkn
          replace hck : wz.cell? ⟨b, o + k, none⟩ = some (.string s) := by rw [HS.out]; exact hck
          have hki : (k : Int) < (n : Int) := by omega
          have hsAz : (s.size : Int) = 64 := by omega
          have hlit : (wz.alloc (.cells #[] 9)).ownsRow wz.heap.size 9 1 (.slice (some ⟨wz.heap.size, 0, none⟩) 0 0) 0 [] := World.ownsRow_lit (base := wz.heap.size) (e := 9) (size := 1) wz #[] 0 (Nat.le_refl _) (by decide) rfl
          have HLit : Hid ((wz.alloc (.cells #[] 9)).ownsRow wz.heap.size 9 1 (.slice (some ⟨wz.heap.size, 0, none⟩) 0 0) 0 []) := hlit
          have t1 : True := trivial
          clear hlit x1 hAz
          go_upto_region 14 with (first | (at_builtin; go_loud (have _t := t1; refine wpList_append_own _ rfl _ _ 26 rfl wz.heap.size 9 i0 (.string ByteArray.empty) 1 16 Tryd.underlying26 hi' hz0 hz1 hz2 rfl (by decide) (.slice (some ⟨wz.heap.size, 0, none⟩) 0 0) 0 [] rfl HLit.out ⟨b, o, none⟩ n cL (textVals n fun j => (Rc.someP fr l j).data) rfl (by rw [textVals_length, Nat.mul_one]) (RowS.cells (HRz.out.below ((Below.refl _ wz).alloc (Nat.le_refl _) _))) (by intro u hu; unfold textVals at hu; obtain ⟨j, _, rfl⟩ := List.mem_map.1 hu; rfl) (by unfold maxLen; omega) (by omega) (by simp) ?_; intro v' w9 hown' hgrow _; rw [Nat.zero_add, List.nil_append] at hown'; have b9 : Below wz.heap.size wz w9 := ((Below.refl _ wz).alloc (Nat.le_refl _) _).grown hgrow (by simp) (fun j ej => (HLit.out.lt j ej).1); obtain ⟨g', cap', rfl, hgb, hgc⟩ := owns_some12 hown' n1; have HB9 : Hid (Below wz.heap.size wz w9) := b9; have OWN9 : Hid (w9.ownsRow wz.heap.size 9 1 (.slice (some ⟨g', 0, none⟩) n cap') n (textVals n fun j => (Rc.someP fr l j).data)) := hown'; have HGc : Hid (wz.heap.size ≤ g' ∧ n ≤ cap') := ⟨hgb, hgc⟩; clear hown' hgrow b9 hgb t1)))
          have x2 := HX2.out
          have hcv2 := HCv2.out
          have ht2 := HT2.out
          obtain ⟨_, _, e9, hr9, _, _⟩ := RowS.of_owns OWN9.out
          cases e9
          have hc9 := hr9.at hkn
          try dsimp only at hc9
          rw [← HS.out] at hc9
          have hal : (w9.alloc (.cells #[.int .u8 ((s[i].toNat ^^^ by_ : Nat) : Int)] 5)).cell? ⟨g', k, none⟩ = some (.string s) := by
            rw [Nat.zero_add] at hc9
            exact (((Below.refl _ w9).alloc (Nat.le_refl _) _).cell (p := ⟨g', k, none⟩) (World.block_lt_of_cell? w9 _ hc9)).trans hc9
          have hfa : (w9.alloc (.cells #[.int .u8 ((s[i].toNat ^^^ by_ : Nat) : Int)] 5)).frozen? ⟨g', k, none⟩ = false := (OWN9.out.alloc _).frozenAt k
          clear hr9 hc9 hck
          go_region
          have own10 := ((OWN9.out.alloc (.cells #[.int .u8 ((s[i].toNat ^^^ by_ : Nat) : Int)] 5)).stored k (.string t2)).1
          rw [textVals_put] at own10
          obtain ⟨_, _, e10, r10, hc10, _⟩ := RowS.of_owns own10
          cases e10
          have HB10 : Hid (Below wz.heap.size wz ((w9.alloc (.cells #[.int .u8 ((s[i].toNat ^^^ by_ : Nat) : Int)] 5)).setCell ⟨g', k, none⟩ (.string t2)).drew) := ((HB9.out.alloc HB9.out.size _).setCell (p := ⟨g', k, none⟩) HGc.out.1 _).drew
          have HC10 : Hid _ := hc10
          clear hc10
          have HR10 : Hid (RowS ((w9.alloc (.cells #[.int .u8 ((s[i].toNat ^^^ by_ : Nat) : Int)] 5)).setCell ⟨g', k, none⟩ (.string t2)).drew (some ⟨g', 0, none⟩) n (fun j => if j = k then t2 else (Rc.someP fr l j).data)) := r10.drew
          clear own10 r10 hal hfa x2 hcv2 ht2
          generalize ((w9.alloc (.cells #[.int .u8 ((s[i].toNat ^^^ by_ : Nat) : Int)] 5)).setCell ⟨g', k, none⟩ (.string t2)).drew = w10 at *
          go_wp2_with (go_at_call 15; refine (HD2.out _ _ _ HC10.out HR10.out).mono ?_; rintro e w11 ⟨q9, r9, a11, m11, c11, rfl, hb11⟩)
          have HB11 : Hid (Below w'.heap.size w' w11) := below2 HBw.out (below2 HB10.out hb11)
          clear hb11
          go_wp2
          go_ret
          exact ⟨rfl, HB11.out.alloc HB11.out.size _⟩
        · go_wp2
          try refine ⟨trivial, ?_⟩
          have hx5 : BoxAt (w4.alloc (Obj.cells #[.int .u64 0, .int .i64 0, .slice none 0 0] 25)) w4.heap.size (.int .u64 0) (.int .i64 0) (.slice none 0 0) := BoxAt.new _ _ _ _ _
          have HG : Hid (w3.heap.size ≤ w4.heap.size) := HB4.out.size
          have HB5 : Hid (Below w3.heap.size w3 (w4.alloc (Obj.cells #[.int .u64 0, .int .i64 0, .slice none 0 0] 25))) := HB4.out.alloc HB4.out.size _
          have HX5 : Hid _ := hx5
          clear hx5
          generalize (w4.alloc (Obj.cells #[.int .u64 0, .int .i64 0, .slice none 0 0] 25)) = w5 at *
          generalize w4.heap.size = g at *
          refine held_one 17 rfl (by kernel_rfl) ?_
          go_wp2_with (go_at_call 15; refine (HD1.out _ _ _ HCL.out (HR3.out.below (HB5.out.drew))).mono ?_; rintro e w6 ⟨q, r, a6, m6, c6, rfl, hb6⟩)
          try refine ⟨trivial, ?_⟩
          have HB6 : Hid (Below w3.heap.size w3 w6) := below2 (HB5.out.drew) hb6
          have HX6 : Hid (BoxAt w6 g (.int .u64 0) (.int .i64 0) (.slice none 0 0)) := HX5.out.below (below2 ((Below.refl _ w5).drew) hb6) HX5.out.lt
          clear hb6
          refine held_quiet 18 (v := ?v18q20) rfl (by kernel_rfl) (fun _ _ _ h => h) (by assumption) rfl ?hy18q20 ?rest18q20
          case hy18q20 => (intro wS hSw; (try dsimp only at hSw); go_simp; try with_reducible rfl)
          try simp only [Act.put, List.setIfInBounds_toArray, List.set_cons_zero, List.set_cons_succ]
          refine held_quiet 19 (v := ?v19q21) rfl (by kernel_rfl) (fun _ _ _ h => h) (by assumption) rfl ?hy19q21 ?rest19q21
          case hy19q21 => (intro wS hSw; (try dsimp only at hSw); go_simp; try with_reducible rfl)
          try simp only [Act.put, List.setIfInBounds_toArray, List.set_cons_zero, List.set_cons_succ]
          refine held_quiet 20 (v := ?v20q22) rfl (by kernel_rfl) (fun _ _ _ h => h) (by assumption) rfl ?hy20q22 ?rest20q22
          case hy20q22 => (intro wS hSw; (try dsimp only at hSw); go_simp; try with_reducible rfl)
          try simp only [Act.put, List.setIfInBounds_toArray, List.set_cons_zero, List.set_cons_succ]
          refine held_one 22 rfl (by kernel_rfl) ?_
          obtain ⟨z0, z1, z2, f0, f1, f2⟩ := HX6.out
          go_wp2
          try refine ⟨trivial, ?_⟩
          refine held_quiet 23 (v := ?v23q23) rfl (by kernel_rfl) (fun _ _ _ h => h) (by assumption) rfl ?hy23q23 ?rest23q23
          case hy23q23 => (intro wS hSw; (try dsimp only at hSw); go_simp; try with_reducible rfl)
          try simp only [Act.put, List.setIfInBounds_toArray, List.set_cons_zero, List.set_cons_succ]
          refine held_done (by kernel_rfl) ?_
          clear z0 z1 z2 f0 f1 f2
          have HBz : Hid (Below w3.heap.size w3 (((w6.setCell ⟨g, 0, none⟩ (.int .u64 q)).setCell ⟨g, 1, none⟩ (.int .i64 r)).setCell ⟨g, 2, none⟩ (.slice a6 m6 c6))) := stored3 HB6.out HG.out HB6.out.size _ _ _
          generalize (((w6.setCell ⟨g, 0, none⟩ (.int .u64 q)).setCell ⟨g, 1, none⟩ (.int .i64 r)).setCell ⟨g, 2, none⟩ (.slice a6 m6 c6)) = wz at *
          have HRz : Hid (RowS wz aL n (fun j => (Rc.someP fr l j).data)) := HR3.out.below HBz.out
          have HBw : Hid (Below w'.heap.size w' wz) := below2 HB3.out HBz.out
          obtain ⟨b, o, rfl, hck⟩ := HRz.out k hkn
          replace hck : wz.cell? ⟨b, o + k, none⟩ = some (.string s) := by rw [HS.out]; exact hck
          have hki : (k : Int) < (n : Int) := by omega
          have hsAz : (s.size : Int) = 64 := by omega
          have hlit : (wz.alloc (.cells #[] 9)).ownsRow wz.heap.size 9 1 (.slice (some ⟨wz.heap.size, 0, none⟩) 0 0) 0 [] := World.ownsRow_lit (base := wz.heap.size) (e := 9) (size := 1) wz #[] 0 (Nat.le_refl _) (by decide) rfl
          have HLit : Hid ((wz.alloc (.cells #[] 9)).ownsRow wz.heap.size 9 1 (.slice (some ⟨wz.heap.size, 0, none⟩) 0 0) 0 []) := hlit
          have t1 : True := trivial
          clear hlit x1 hAz
          go_upto_region 14 with (first | (at_builtin; go_loud (have _t := t1; refine wpList_append_own _ rfl _ _ 26 rfl wz.heap.size 9 i0 (.string ByteArray.empty) 1 16 Tryd.underlying26 hi' hz0 hz1 hz2 rfl (by decide) (.slice (some ⟨wz.heap.size, 0, none⟩) 0 0) 0 [] rfl HLit.out ⟨b, o, none⟩ n cL (textVals n fun j => (Rc.someP fr l j).data) rfl (by rw [textVals_length, Nat.mul_one]) (RowS.cells (HRz.out.below ((Below.refl _ wz).alloc (Nat.le_refl _) _))) (by intro u hu; unfold textVals at hu; obtain ⟨j, _, rfl⟩ := List.mem_map.1 hu; rfl) (by unfold maxLen; omega) (by omega) (by simp) ?_; intro v' w9 hown' hgrow _; rw [Nat.zero_add, List.nil_append] at hown'; have b9 : Below wz.heap.size wz w9 := ((Below.refl _ wz).alloc (Nat.le_refl _) _).grown hgrow (by simp) (fun j ej => (HLit.out.lt j ej).1); obtain ⟨g', cap', rfl, hgb, hgc⟩ := owns_some12 hown' n1; have HB9 : Hid (Below wz.heap.size wz w9) := b9; have OWN9 : Hid (w9.ownsRow wz.heap.size 9 1 (.slice (some ⟨g', 0, none⟩) n cap') n (textVals n fun j => (Rc.someP fr l j).data)) := hown'; have HGc : Hid (wz.heap.size ≤ g' ∧ n ≤ cap') := ⟨hgb, hgc⟩; clear hown' hgrow b9 hgb t1)))
          have x2 := HX2.out
          have hcv2 := HCv2.out
          have ht2 := HT2.out
          obtain ⟨_, _, e9, hr9, _, _⟩ := RowS.of_owns OWN9.out
          cases e9
          have hc9 := hr9.at hkn
          try dsimp only at hc9
          rw [← HS.out] at hc9
          have hal : (w9.alloc (.cells #[.int .u8 ((s[i].toNat ^^^ by_ : Nat) : Int)] 5)).cell? ⟨g', k, none⟩ = some (.string s) := by
            rw [Nat.zero_add] at hc9
            exact (((Below.refl _ w9).alloc (Nat.le_refl _) _).cell (p := ⟨g', k, none⟩) (World.block_lt_of_cell? w9 _ hc9)).trans hc9
          have hfa : (w9.alloc (.cells #[.int .u8 ((s[i].toNat ^^^ by_ : Nat) : Int)] 5)).frozen? ⟨g', k, none⟩ = false := (OWN9.out.alloc _).frozenAt k
          clear hr9 hc9 hck
          go_region
          have own10 := ((OWN9.out.alloc (.cells #[.int .u8 ((s[i].toNat ^^^ by_ : Nat) : Int)] 5)).stored k (.string t2)).1
          rw [textVals_put] at own10
          obtain ⟨_, _, e10, r10, hc10, _⟩ := RowS.of_owns own10
          cases e10
          have HB10 : Hid (Below wz.heap.size wz ((w9.alloc (.cells #[.int .u8 ((s[i].toNat ^^^ by_ : Nat) : Int)] 5)).setCell ⟨g', k, none⟩ (.string t2)).drew) := ((HB9.out.alloc HB9.out.size _).setCell (p := ⟨g', k, none⟩) HGc.out.1 _).drew
          have HC10 : Hid _ := hc10
          clear hc10
          have HR10 : Hid (RowS ((w9.alloc (.cells #[.int .u8 ((s[i].toNat ^^^ by_ : Nat) : Int)] 5)).setCell ⟨g', k, none⟩ (.string t2)).drew (some ⟨g', 0, none⟩) n (fun j => if j = k then t2 else (Rc.someP fr l j).data)) := r10.drew
          clear own10 r10 hal hfa x2 hcv2 ht2
          generalize ((w9.alloc (.cells #[.int .u8 ((s[i].toNat ^^^ by_ : Nat) : Int)] 5)).setCell ⟨g', k, none⟩ (.string t2)).drew = w10 at *
          go_wp2_with (go_at_call 15; refine (HD2.out _ _ _ HC10.out HR10.out).mono ?_; rintro e w11 ⟨q9, r9, a11, m11, c11, rfl, hb11⟩)
          have HB11 : Hid (Below w'.heap.size w' w11) := below2 HBw.out (below2 HB10.out hb11)
          clear hb11
          go_wp2
          go_ret
          exact ⟨rfl, HB11.out.alloc HB11.out.size _⟩
      · go_wp2
        try refine ⟨trivial, ?_⟩
        have s1 : (w3.alloc (Obj.cells #[.int .u8 ((h[i].toNat ^^^ by_ : Nat) : Int)] 5)).heap.size = w3.heap.size + 1 := World.size_alloc ..
        have hx5 : BoxAt ((w3.alloc (Obj.cells #[.int .u8 ((h[i].toNat ^^^ by_ : Nat) : Int)] 5)).alloc (Obj.cells #[.int .u64 0, .int .i64 0, .slice none 0 0] 25)) (w3.alloc (Obj.cells #[.int .u8 ((h[i].toNat ^^^ by_ : Nat) : Int)] 5)).heap.size (.int .u64 0) (.int .i64 0) (.slice none 0 0) := BoxAt.new _ _ _ _ _
        rw [s1] at hx5
        have HG : Hid (w3.heap.size ≤ w3.heap.size + 1) := Nat.le_succ _
        have HB5 : Hid (Below w3.heap.size w3 ((w3.alloc (Obj.cells #[.int .u8 ((h[i].toNat ^^^ by_ : Nat) : Int)] 5)).alloc (Obj.cells #[.int .u64 0, .int .i64 0, .slice none 0 0] 25))) := ((Below.refl _ w3).alloc (Nat.le_refl _) _).alloc ((Below.refl _ w3).alloc (Nat.le_refl _) _).size _
        have HX5 : Hid _ := hx5
        have HQ : Hid (((w3.alloc (Obj.cells #[.int .u8 ((h[i].toNat ^^^ by_ : Nat) : Int)] 5)).alloc (Obj.cells #[.int .u64 0, .int .i64 0, .slice none 0 0] 25)).drew.cell? ⟨w3.heap.size, 0, none⟩ = some (.int .u8 ((h[i].toNat ^^^ by_ : Nat) : Int))) := ((((Below.refl _ (w3.alloc (Obj.cells #[.int .u8 ((h[i].toNat ^^^ by_ : Nat) : Int)] 5))).alloc (Nat.le_refl _) (Obj.cells #[.int .u64 0, .int .i64 0, .slice none 0 0] 25)).cell (p := ⟨w3.heap.size, 0, none⟩) (by rw [s1]; exact Nat.lt_succ_self _)).trans (World.cell?_alloc_mark w3 _ _ (0, 0) 0))
        clear s1 hx5 h8
        generalize ((w3.alloc (Obj.cells #[.int .u8 ((h[i].toNat ^^^ by_ : Nat) : Int)] 5)).alloc (Obj.cells #[.int .u64 0, .int .i64 0, .slice none 0 0] 25)) = w5 at *
        generalize hg : w3.heap.size + 1 = g at *
        have hcg := HCv.out w5.drew w3.heap.size HQ.out
        refine held_one 9 rfl (by kernel_rfl) ?_
        go_wp2
        try refine ⟨trivial, ?_⟩
        clear hcg hg
        refine held_quiet 10 (v := ?v10q24) rfl (by kernel_rfl) (fun _ _ _ h => h) (by assumption) rfl ?hy10q24 ?rest10q24
        case hy10q24 => (intro wS hSw; (try dsimp only at hSw); go_simp; try with_reducible rfl)
        try simp only [Act.put, List.setIfInBounds_toArray, List.set_cons_zero, List.set_cons_succ]
        refine held_quiet 15 (v := ?v15q25) rfl (by kernel_rfl) (fun _ _ _ h => h) (by assumption) rfl ?hy15q25 ?rest15q25
        case hy15q25 => (intro wS hSw; (try dsimp only at hSw); go_simp; try with_reducible rfl)
        try simp only [Act.put, List.setIfInBounds_toArray, List.set_cons_zero, List.set_cons_succ]
        refine held_one 17 rfl (by kernel_rfl) ?_
        go_wp2_with (go_at_call 15; refine (HD1.out _ _ _ HCL.out (HR3.out.below (HB5.out.drew))).mono ?_; rintro e w6 ⟨q, r, a6, m6, c6, rfl, hb6⟩)
        try refine ⟨trivial, ?_⟩
        have HB6 : Hid (Below w3.heap.size w3 w6) := below2 (HB5.out.drew) hb6
        have HX6 : Hid (BoxAt w6 g (.int .u64 0) (.int .i64 0) (.slice none 0 0)) := HX5.out.below (below2 ((Below.refl _ w5).drew) hb6) HX5.out.lt
        clear hb6
        refine held_quiet 18 (v := ?v18q26) rfl (by kernel_rfl) (fun _ _ _ h => h) (by assumption) rfl ?hy18q26 ?rest18q26
        case hy18q26 => (intro wS hSw; (try dsimp only at hSw); go_simp; try with_reducible rfl)
        try simp only [Act.put, List.setIfInBounds_toArray, List.set_cons_zero, List.set_cons_succ]
        refine held_quiet 19 (v := ?v19q27) rfl (by kernel_rfl) (fun _ _ _ h => h) (by assumption) rfl ?hy19q27 ?rest19q27
        case hy19q27 => (intro wS hSw; (try dsimp only at hSw); go_simp; try with_reducible rfl)
        try simp only [Act.put, List.setIfInBounds_toArray, List.set_cons_zero, List.set_cons_succ]
        refine held_quiet 20 (v := ?v20q28) rfl (by kernel_rfl) (fun _ _ _ h => h) (by assumption) rfl ?hy20q28 ?rest20q28
        case hy20q28 => (intro wS hSw; (try dsimp only at hSw); go_simp; try with_reducible rfl)
        try simp only [Act.put, List.setIfInBounds_toArray, List.set_cons_zero, List.set_cons_succ]
        refine held_one 22 rfl (by kernel_rfl) ?_
        obtain ⟨z0, z1, z2, f0, f1, f2⟩ := HX6.out
        go_wp2
        try refine ⟨trivial, ?_⟩
        refine held_quiet 23 (v := ?v23q29) rfl (by kernel_rfl) (fun _ _ _ h => h) (by assumption) rfl ?hy23q29 ?rest23q29
        case hy23q29 => (intro wS hSw; (try dsimp only at hSw); go_simp; try with_reducible rfl)
        try simp only [Act.put, List.setIfInBounds_toArray, List.set_cons_zero, List.set_cons_succ]
        refine held_done (by kernel_rfl) ?_
        clear z0 z1 z2 f0 f1 f2
        have HBz : Hid (Below w3.heap.size w3 (((w6.setCell ⟨g, 0, none⟩ (.int .u64 q)).setCell ⟨g, 1, none⟩ (.int .i64 r)).setCell ⟨g, 2, none⟩ (.slice a6 m6 c6))) := stored3 HB6.out HG.out HB6.out.size _ _ _
        generalize (((w6.setCell ⟨g, 0, none⟩ (.int .u64 q)).setCell ⟨g, 1, none⟩ (.int .i64 r)).setCell ⟨g, 2, none⟩ (.slice a6 m6 c6)) = wz at *
        have HRz : Hid (RowS wz aL n (fun j => (Rc.someP fr l j).data)) := HR3.out.below HBz.out
        have HBw : Hid (Below w'.heap.size w' wz) := below2 HB3.out HBz.out
        obtain ⟨b, o, rfl, hck⟩ := HRz.out k hkn
        replace hck : wz.cell? ⟨b, o + k, none⟩ = some (.string s) := by rw [HS.out]; exact hck
        have hki : (k : Int) < (n : Int) := by omega
        have hsAz : (s.size : Int) = 64 := by omega
        have hlit : (wz.alloc (.cells #[] 9)).ownsRow wz.heap.size 9 1 (.slice (some ⟨wz.heap.size, 0, none⟩) 0 0) 0 [] := World.ownsRow_lit (base := wz.heap.size) (e := 9) (size := 1) wz #[] 0 (Nat.le_refl _) (by decide) rfl
        have HLit : Hid ((wz.alloc (.cells #[] 9)).ownsRow wz.heap.size 9 1 (.slice (some ⟨wz.heap.size, 0, none⟩) 0 0) 0 []) := hlit
        have t1 : True := trivial
        clear hlit x1 hAz
        go_upto_region 14 with (first | (at_builtin; go_loud (have _t := t1; refine wpList_append_own _ rfl _ _ 26 rfl wz.heap.size 9 i0 (.string ByteArray.empty) 1 16 Tryd.underlying26 hi' hz0 hz1 hz2 rfl (by decide) (.slice (some ⟨wz.heap.size, 0, none⟩) 0 0) 0 [] rfl HLit.out ⟨b, o, none⟩ n cL (textVals n fun j => (Rc.someP fr l j).data) rfl (by rw [textVals_length, Nat.mul_one]) (RowS.cells (HRz.out.below ((Below.refl _ wz).alloc (Nat.le_refl _) _))) (by intro u hu; unfold textVals at hu; obtain ⟨j, _, rfl⟩ := List.mem_map.1 hu; rfl) (by unfold maxLen; omega) (by omega) (by simp) ?_; intro v' w9 hown' hgrow _; rw [Nat.zero_add, List.nil_append] at hown'; have b9 : Below wz.heap.size wz w9 := ((Below.refl _ wz).alloc (Nat.le_refl _) _).grown hgrow (by simp) (fun j ej => (HLit.out.lt j ej).1); obtain ⟨g', cap', rfl, hgb, hgc⟩ := owns_some12 hown' n1; have HB9 : Hid (Below wz.heap.size wz w9) := b9; have OWN9 : Hid (w9.ownsRow wz.heap.size 9 1 (.slice (some ⟨g', 0, none⟩) n cap') n (textVals n fun j => (Rc.someP fr l j).data)) := hown'; have HGc : Hid (wz.heap.size ≤ g' ∧ n ≤ cap') := ⟨hgb, hgc⟩; clear hown' hgrow b9 hgb t1)))
        have x2 := HX2.out
        have hcv2 := HCv2.out
        have ht2 := HT2.out
        obtain ⟨_, _, e9, hr9, _, _⟩ := RowS.of_owns OWN9.out
        cases e9
        have hc9 := hr9.at hkn
        try dsimp only at hc9
        rw [← HS.out] at hc9
        have hal : (w9.alloc (.cells #[.int .u8 ((s[i].toNat ^^^ by_ : Nat) : Int)] 5)).cell? ⟨g', k, none⟩ = some (.string s) := by
          rw [Nat.zero_add] at hc9
          exact (((Below.refl _ w9).alloc (Nat.le_refl _) _).cell (p := ⟨g', k, none⟩) (World.block_lt_of_cell? w9 _ hc9)).trans hc9
        have hfa : (w9.alloc (.cells #[.int .u8 ((s[i].toNat ^^^ by_ : Nat) : Int)] 5)).frozen? ⟨g', k, none⟩ = false := (OWN9.out.alloc _).frozenAt k
        clear hr9 hc9 hck
        go_region
        have own10 := ((OWN9.out.alloc (.cells #[.int .u8 ((s[i].toNat ^^^ by_ : Nat) : Int)] 5)).stored k (.string t2)).1
        rw [textVals_put] at own10
        obtain ⟨_, _, e10, r10, hc10, _⟩ := RowS.of_owns own10
        cases e10
        have HB10 : Hid (Below wz.heap.size wz ((w9.alloc (.cells #[.int .u8 ((s[i].toNat ^^^ by_ : Nat) : Int)] 5)).setCell ⟨g', k, none⟩ (.string t2)).drew) := ((HB9.out.alloc HB9.out.size _).setCell (p := ⟨g', k, none⟩) HGc.out.1 _).drew
        have HC10 : Hid _ := hc10
        clear hc10
        have HR10 : Hid (RowS ((w9.alloc (.cells #[.int .u8 ((s[i].toNat ^^^ by_ : Nat) : Int)] 5)).setCell ⟨g', k, none⟩ (.string t2)).drew (some ⟨g', 0, none⟩) n (fun j => if j = k then t2 else (Rc.someP fr l j).data)) := r10.drew
        clear own10 r10 hal hfa x2 hcv2 ht2
        generalize ((w9.alloc (.cells #[.int .u8 ((s[i].toNat ^^^ by_ : Nat) : Int)] 5)).setCell ⟨g', k, none⟩ (.string t2)).drew = w10 at *
        go_wp2_with (go_at_call 15; refine (HD2.out _ _ _ HC10.out HR10.out).mono ?_; rintro e w11 ⟨q9, r9, a11, m11, c11, rfl, hb11⟩)
        have HB11 : Hid (Below w'.heap.size w' w11) := below2 HBw.out (below2 HB10.out hb11)
        clear hb11
        go_wp2
        go_ret
        exact ⟨rfl, HB11.out.alloc HB11.out.size _⟩
    · go_wp2
      try refine ⟨trivial, ?_⟩
      have hx5 : BoxAt (w3.alloc (Obj.cells #[.int .u64 0, .int .i64 0, .slice none 0 0] 25)) w3.heap.size (.int .u64 0) (.int .i64 0) (.slice none 0 0) := BoxAt.new _ _ _ _ _
      have HB7 : Hid (Below w3.heap.size w3 (w3.alloc (Obj.cells #[.int .u64 0, .int .i64 0, .slice none 0 0] 25))) := (Below.refl _ w3).alloc (Nat.le_refl _) _
      have HX7 : Hid _ := hx5
      have HG : Hid (w3.heap.size ≤ w3.heap.size) := Nat.le_refl _
      clear hx5
      generalize (w3.alloc (Obj.cells #[.int .u64 0, .int .i64 0, .slice none 0 0] 25)) = w7 at *
      refine held_one 8 rfl (by kernel_rfl) ?_
      go_wp2
      try refine ⟨trivial, ?_⟩
      have HB5 : Hid (Below w3.heap.size w3 (w7.alloc (Obj.cells #[.int .u8 ((h[i].toNat ^^^ by_ : Nat) : Int)] 5))) := HB7.out.alloc HB7.out.size _
      have HX5 : Hid (BoxAt (w7.alloc (Obj.cells #[.int .u8 ((h[i].toNat ^^^ by_ : Nat) : Int)] 5)) w3.heap.size (.int .u64 0) (.int .i64 0) (.slice none 0 0)) := HX7.out.below ((Below.refl _ w7).alloc (Nat.le_refl _) _) HX7.out.lt
      have hcg := HCv.out (w7.alloc (Obj.cells #[.int .u8 ((h[i].toNat ^^^ by_ : Nat) : Int)] 5)).drew w7.heap.size (World.cell?_alloc_mark w7 _ _ (0, 0) 0)
      generalize (w7.alloc (Obj.cells #[.int .u8 ((h[i].toNat ^^^ by_ : Nat) : Int)] 5)) = w5 at *
      refine held_one 9 rfl (by kernel_rfl) ?_
      go_wp2
      try refine ⟨trivial, ?_⟩
      clear hcg
      refine held_quiet 10 (v := ?v10q30) rfl (by kernel_rfl) (fun _ _ _ h => h) (by assumption) rfl ?hy10q30 ?rest10q30
      case hy10q30 => (intro wS hSw; (try dsimp only at hSw); go_simp; try with_reducible rfl)
      try simp only [Act.put, List.setIfInBounds_toArray, List.set_cons_zero, List.set_cons_succ]
      refine held_quiet 15 (v := ?v15q31) rfl (by kernel_rfl) (fun _ _ _ h => h) (by assumption) rfl ?hy15q31 ?rest15q31
      case hy15q31 => (intro wS hSw; (try dsimp only at hSw); go_simp; try with_reducible rfl)
      try simp only [Act.put, List.setIfInBounds_toArray, List.set_cons_zero, List.set_cons_succ]
      refine held_one 17 rfl (by kernel_rfl) ?_
      go_wp2_with (go_at_call 15; refine (HD1.out _ _ _ HCL.out (HR3.out.below (HB5.out.drew))).mono ?_; rintro e w6 ⟨q, r, a6, m6, c6, rfl, hb6⟩)
      try refine ⟨trivial, ?_⟩
      have HB6 : Hid (Below w3.heap.size w3 w6) := below2 (HB5.out.drew) hb6
      have HX6 : Hid (BoxAt w6 w3.heap.size (.int .u64 0) (.int .i64 0) (.slice none 0 0)) := HX5.out.below (below2 ((Below.refl _ w5).drew) hb6) HX5.out.lt
      clear hb6
      refine held_quiet 18 (v := ?v18q32) rfl (by kernel_rfl) (fun _ _ _ h => h) (by assumption) rfl ?hy18q32 ?rest18q32
      case hy18q32 => (intro wS hSw; (try dsimp only at hSw); go_simp; try with_reducible rfl)
      try simp only [Act.put, List.setIfInBounds_toArray, List.set_cons_zero, List.set_cons_succ]
      refine held_quiet 19 (v := ?v19q33) rfl (by kernel_rfl) (fun _ _ _ h => h) (by assumption) rfl ?hy19q33 ?rest19q33
      case hy19q33 => (intro wS hSw; (try dsimp only at hSw); go_simp; try with_reducible rfl)
      try simp only [Act.put, List.setIfInBounds_toArray, List.set_cons_zero, List.set_cons_succ]
      refine held_quiet 20 (v := ?v20q34) rfl (by kernel_rfl) (fun _ _ _ h => h) (by assumption) rfl ?hy20q34 ?rest20q34
      case hy20q34 => (intro wS hSw; (try dsimp only at hSw); go_simp; try with_reducible rfl)
      try simp only [Act.put, List.setIfInBounds_toArray, List.set_cons_zero, List.set_cons_succ]
      refine held_one 22 rfl (by kernel_rfl) ?_
      obtain ⟨z0, z1, z2, f0, f1, f2⟩ := HX6.out
      go_wp2
      try refine ⟨trivial, ?_⟩
      refine held_quiet 23 (v := ?v23q35) rfl (by kernel_rfl) (fun _ _ _ h => h) (by assumption) rfl ?hy23q35 ?rest23q35
      case hy23q35 => (intro wS hSw; (try dsimp only at hSw); go_simp; try with_reducible rfl)
      try simp only [Act.put, List.setIfInBounds_toArray, List.set_cons_zero, List.set_cons_succ]
      refine held_done (by kernel_rfl) ?_
      clear z0 z1 z2 f0 f1 f2
      have HBz : Hid (Below w3.heap.size w3 (((w6.setCell ⟨w3.heap.size, 0, none⟩ (.int .u64 q)).setCell ⟨w3.heap.size, 1, none⟩ (.int .i64 r)).setCell ⟨w3.heap.size, 2, none⟩ (.slice a6 m6 c6))) := stored3 HB6.out HG.out HB6.out.size _ _ _
      generalize (((w6.setCell ⟨w3.heap.size, 0, none⟩ (.int .u64 q)).setCell ⟨w3.heap.size, 1, none⟩ (.int .i64 r)).setCell ⟨w3.heap.size, 2, none⟩ (.slice a6 m6 c6)) = wz at *
      have HRz : Hid (RowS wz aL n (fun j => (Rc.someP fr l j).data)) := HR3.out.below HBz.out
      have HBw : Hid (Below w'.heap.size w' wz) := below2 HB3.out HBz.out
      obtain ⟨b, o, rfl, hck⟩ := HRz.out k hkn
      replace hck : wz.cell? ⟨b, o + k, none⟩ = some (.string s) := by rw [HS.out]; exact hck
      have hki : (k : Int) < (n : Int) := by omega
      have hsAz : (s.size : Int) = 64 := by omega
      have hlit : (wz.alloc (.cells #[] 9)).ownsRow wz.heap.size 9 1 (.slice (some ⟨wz.heap.size, 0, none⟩) 0 0) 0 [] := World.ownsRow_lit (base := wz.heap.size) (e := 9) (size := 1) wz #[] 0 (Nat.le_refl _) (by decide) rfl
      have HLit : Hid ((wz.alloc (.cells #[] 9)).ownsRow wz.heap.size 9 1 (.slice (some ⟨wz.heap.size, 0, none⟩) 0 0) 0 []) := hlit
      have t1 : True := trivial
      clear hlit x1 hAz
      go_upto_region 14 with (first | (at_builtin; go_loud (have _t := t1; refine wpList_append_own _ rfl _ _ 26 rfl wz.heap.size 9 i0 (.string ByteArray.empty) 1 16 Tryd.underlying26 hi' hz0 hz1 hz2 rfl (by decide) (.slice (some ⟨wz.heap.size, 0, none⟩) 0 0) 0 [] rfl HLit.out ⟨b, o, none⟩ n cL (textVals n fun j => (Rc.someP fr l j).data) rfl (by rw [textVals_length, Nat.mul_one]) (RowS.cells (HRz.out.below ((Below.refl _ wz).alloc (Nat.le_refl _) _))) (by intro u hu; unfold textVals at hu; obtain ⟨j, _, rfl⟩ := List.mem_map.1 hu; rfl) (by unfold maxLen; omega) (by omega) (by simp) ?_; intro v' w9 hown' hgrow _; rw [Nat.zero_add, List.nil_append] at hown'; have b9 : Below wz.heap.size wz w9 := ((Below.refl _ wz).alloc (Nat.le_refl _) _).grown hgrow (by simp) (fun j ej => (HLit.out.lt j ej).1); obtain ⟨g', cap', rfl, hgb, hgc⟩ := owns_some12 hown' n1; have HB9 : Hid (Below wz.heap.size wz w9) := b9; have OWN9 : Hid (w9.ownsRow wz.heap.size 9 1 (.slice (some ⟨g', 0, none⟩) n cap') n (textVals n fun j => (Rc.someP fr l j).data)) := hown'; have HGc : Hid (wz.heap.size ≤ g' ∧ n ≤ cap') := ⟨hgb, hgc⟩; clear hown' hgrow b9 hgb t1)))
      have x2 := HX2.out
      have hcv2 := HCv2.out
      have ht2 := HT2.out
      obtain ⟨_, _, e9, hr9, _, _⟩ := RowS.of_owns OWN9.out
      cases e9
      have hc9 := hr9.at hkn
      try dsimp only at hc9
      rw [← HS.out] at hc9
      have hal : (w9.alloc (.cells #[.int .u8 ((s[i].toNat ^^^ by_ : Nat) : Int)] 5)).cell? ⟨g', k, none⟩ = some (.string s) := by
        rw [Nat.zero_add] at hc9
        exact (((Below.refl _ w9).alloc (Nat.le_refl _) _).cell (p := ⟨g', k, none⟩) (World.block_lt_of_cell? w9 _ hc9)).trans hc9
      have hfa : (w9.alloc (.cells #[.int .u8 ((s[i].toNat ^^^ by_ : Nat) : Int)] 5)).frozen? ⟨g', k, none⟩ = false := (OWN9.out.alloc _).frozenAt k
      clear hr9 hc9 hck
      go_region
      have own10 := ((OWN9.out.alloc (.cells #[.int .u8 ((s[i].toNat ^^^ by_ : Nat) : Int)] 5)).stored k (.string t2)).1
      rw [textVals_put] at own10
      obtain ⟨_, _, e10, r10, hc10, _⟩ := RowS.of_owns own10
      cases e10
      have HB10 : Hid (Below wz.heap.size wz ((w9.alloc (.cells #[.int .u8 ((s[i].toNat ^^^ by_ : Nat) : Int)] 5)).setCell ⟨g', k, none⟩ (.string t2)).drew) := ((HB9.out.alloc HB9.out.size _).setCell (p := ⟨g', k, none⟩) HGc.out.1 _).drew
      have HC10 : Hid _ := hc10
      clear hc10
      have HR10 : Hid (RowS ((w9.alloc (.cells #[.int .u8 ((s[i].toNat ^^^ by_ : Nat) : Int)] 5)).setCell ⟨g', k, none⟩ (.string t2)).drew (some ⟨g', 0, none⟩) n (fun j => if j = k then t2 else (Rc.someP fr l j).data)) := r10.drew
      clear own10 r10 hal hfa x2 hcv2 ht2
      generalize ((w9.alloc (.cells #[.int .u8 ((s[i].toNat ^^^ by_ : Nat) : Int)] 5)).setCell ⟨g', k, none⟩ (.string t2)).drew = w10 at *
      go_wp2_with (go_at_call 15; refine (HD2.out _ _ _ HC10.out HR10.out).mono ?_; rintro e w11 ⟨q9, r9, a11, m11, c11, rfl, hb11⟩)
      have HB11 : Hid (Below w'.heap.size w' w11) := below2 HBw.out (below2 HB10.out hb11)
      clear hb11
      go_wp2
      go_ret
      exact ⟨rfl, HB11.out.alloc HB11.out.size _⟩

set_option maxRecDepth 100000 in
set_option maxHeartbeats 4000000 in
/-- RecordSpoilt, over what is asked of the program -/
theorem spoilt12_says (X : RecSays) (seq row fr at_ by_ : Nat) (a : Option Addr) (n cap : Nat) (l : Nat → ByteArray) (w : World) (h0 : seq < 18446744073709551616) (h1 : row < 256) (h2 : fr < 256) (hat : at_ < 65536) (hby : by_ < 256) (hr : RowS w a n l) (hm : ∀ j, j < n → (l j).size ≤ maxLen) (hn : n ≤ maxLen) :
    Calls Tryd.prog 5 #[.int .u64 (seq : Int), .int .u8 (row : Int), .int .u8 (fr : Int), .slice a n cap, .int .u16 (at_ : Int), .int .u8 (by_ : Int)] w fun e w' => e = .returned (.bool true) ∧ Below w.heap.size w w' := by
  by_cases hb : ((1 ≤ n ∧ n ≤ 40) ∧ by_ ≠ 0) ∧ ∀ j, j < n → (l j).size ≤ 100
  · exact spoilt12_main X seq row fr at_ by_ a n cap l w h0 h1 h2 hat hby hb.1.2 hr hb.1.1.1 hb.1.1.2 hb.2
  have hheavy := heavy12_any w a n cap l hr hm hn
  have HSh : Hid _ := fun W => shown12_any X W
  have HNb : Hid (¬ (((1 ≤ n ∧ n ≤ 40) ∧ by_ ≠ 0) ∧ ∀ j, j < n → (l j).size ≤ 100)) := hb
  clear hr hb hm hn
  by_cases hk1 : (40 : Int) < (n : Int)
  · have hk2 : ((n : Int) == 0) = false := by rw [beq_eq_false_iff_ne]; omega
    go_enter Tryd.func5, Tryd.ntmps5
    go_wp2_with fail
    refine hheavy.mono ?_
    rintro e w' ⟨rfl, hcase⟩
    rcases hcase with rfl | ⟨rfl, _⟩
    all_goals
      go_wp2_with fail
      refine (HSh.out _).mono ?_
      rintro e w2 ⟨rfl, hb⟩
      have HB : Hid _ := hb
      clear hb
      go_wp2
      go_ret
      exact ⟨rfl, HB.out⟩
  · by_cases hk0 : n = 0
    · subst hk0
      go_enter Tryd.func5, Tryd.ntmps5
      go_wp2_with fail
      refine hheavy.mono ?_
      rintro e w' ⟨rfl, hcase⟩
      rcases hcase with rfl | ⟨rfl, _⟩
      all_goals
        go_wp2_with fail
        refine (HSh.out _).mono ?_
        rintro e w2 ⟨rfl, hb⟩
        have HB : Hid _ := hb
        clear hb
        go_wp2
        go_ret
        exact ⟨rfl, HB.out⟩
    · have hk2 : ((n : Int) == 0) = false := by rw [beq_eq_false_iff_ne]; omega
      by_cases hk3 : by_ = 0
      · subst hk3
        go_enter Tryd.func5, Tryd.ntmps5
        go_wp2_with fail
        refine hheavy.mono ?_
        rintro e w' ⟨rfl, hcase⟩
        rcases hcase with rfl | ⟨rfl, _⟩
        all_goals
          go_wp2_with fail
          refine (HSh.out _).mono ?_
          rintro e w2 ⟨rfl, hb⟩
          have HB : Hid _ := hb
          clear hb
          go_wp2
          go_ret
          exact ⟨rfl, HB.out⟩
      · have hk4 : ((by_ : Int) == 0) = false := by rw [beq_eq_false_iff_ne]; omega
        go_enter Tryd.func5, Tryd.ntmps5
        go_wp2_with fail
        refine hheavy.mono ?_
        rintro e w' ⟨rfl, hcase⟩
        rcases hcase with rfl | ⟨rfl, hl⟩
        · go_wp2_with fail
          refine (HSh.out _).mono ?_
          rintro e w2 ⟨rfl, hb⟩
          have HB : Hid _ := hb
          clear hb
          go_wp2
          go_ret
          exact ⟨rfl, HB.out⟩
        · exact absurd ⟨⟨⟨by omega, by omega⟩, hk3⟩, hl.2⟩ HNb.out
theorem spoilt12_walk (X : RecSays) (w : World) (a0 : Int) (w0 : (Lit.int .u64 a0).wf = true) (a1 : Int) (w1 : (Lit.int .u8 a1).wf = true) (a2 : Int) (w2 : (Lit.int .u8 a2).wf = true) (a3 : Option Addr) (len3 cap3 : Nat) (z3 : List ByteArray) (w3 : IsStrs w a3 len3 cap3 z3) (a4 : Int) (w4 : (Lit.int .u16 a4).wf = true) (a5 : Int) (w5 : (Lit.int .u8 a5).wf = true) :
    Calls Tryd.prog 5 #[.int .u64 a0, .int .u8 a1, .int .u8 a2, .slice a3 len3 cap3, .int .u16 a4, .int .u8 a5] w fun e w' => e = .returned (.bool true) ∧ Below w.heap.size w w' := by
  obtain ⟨s, rfl, h0⟩ := nat12_u64 w0
  obtain ⟨r, rfl, h1⟩ := nat12_u8 w1
  obtain ⟨f, rfl, h2⟩ := nat12_u8 w2
  obtain ⟨l, hm, hs, hr⟩ := w3.open12
  obtain ⟨at_, rfl, h4⟩ := nat12_u16 w4
  obtain ⟨by_, rfl, h5⟩ := nat12_u8 w5
  exact spoilt12_says X s r f at_ by_ a3 len3 cap3 l w h0 h1 h2 h4 h5 hr hs hm
end Go.Proofs.YtmikllmpinciiaaDoor
namespace Go.Proofs.YtmikllmpinciiaaDoor.recordSpoilt
open Go.ChangeShapes Go.WideShapes Go.ChangeAt Go.RowKit
open Go.ChangeMaps (open_string shut_string)

theorem of_laid {W : World} (_ : laidMetH Tryd.prog Rows.recordSpoiltRow.laid W) : True := trivial
theorem walk (w : World) (a0 : Int) (w0 : (Lit.int .u64 a0).wf = true) (a1 : Int) (w1 : (Lit.int .u8 a1).wf = true) (a2 : Int) (w2 : (Lit.int .u8 a2).wf = true) (a3 : Option Addr) (len3 cap3 : Nat) (z3 : List ByteArray) (w3 : IsStrs w a3 len3 cap3 z3) (a4 : Int) (w4 : (Lit.int .u16 a4).wf = true) (a5 : Int) (w5 : (Lit.int .u8 a5).wf = true) (_ : True) :
    Calls Tryd.prog 5 #[.int .u64 a0, .int .u8 a1, .int .u8 a2, .slice a3 len3 cap3, .int .u16 a4, .int .u8 a5] w fun e w' => e = .returned (.bool true) ∧ Below w.heap.size w w' := spoilt12_walk rec_says w a0 w0 a1 w1 a2 w2 a3 len3 cap3 z3 w3 a4 w4 a5 w5

theorem own : ownKnob Tryd.prog.godebug = none := by kernel_rfl
theorem laidOut : laidOutB Tryd.prog = true := by kernel_rfl
theorem door_met (os : Os) (args : Array Value) : laidMetH Tryd.prog Rows.recordSpoiltRow.laid ((World.laidAll Tryd.prog os Rows.recordSpoiltRow.laid).forCall (fun _ _ => 0) ⟨#[], args, []⟩).memory := by
  rw [MakeChecks.laidMetH_plain _ _ _ (by kernel_rfl)]
  exact laidMet_laidAll _ (by kernel_rfl) (by kernel_rfl)
set_option linter.unusedVariables false in
set_option maxRecDepth 100000 in
theorem lifted (os : Os) (started : os.Started) (H : Type) (enc : TypeId × Value → H) :
    ReturnsInHanded {} Tryd.checked os 5 .any (fun w args => (Rows.recordSpoiltSpec.pre enc Tryd.prog Tryd.f5 [] false w args ∧ laidMetH Tryd.prog Rows.recordSpoiltRow.laid w) ∧ sizedMet enc Tryd.prog Tryd.f5 (OpenSpec.ofChange Rows.recordSpoiltSpec) false w args) (Rows.recordSpoiltSpec.post enc Tryd.prog Tryd.f5 false true false false) := by
  refine returnsInHanded_of_change_and (C := Tryd.checked) (X := fun w _ => laidMetH Tryd.prog Rows.recordSpoiltRow.laid w) (fun _ _ _ hh h => h.of_heap hh) own started (by kernel_rfl) Tryd.func5
    (ChangeSpec.witness_shaped (enc := enc) (C := Tryd.checked) (os := os) (X := fun w _ => laidMetH Tryd.prog Rows.recordSpoiltRow.laid w) false (World.laidAll Tryd.prog os Rows.recordSpoiltRow.laid) #[.int .u64 0, .int .u8 0, .int .u8 0, .slice none 0 0, .int .u16 0, .int .u8 0] 8 (World.laidAll_os _ _ _) (World.shaped_of_ZipB (by kernel_rfl) (by kernel_rfl)) (by kernel_rfl) (by kernel_rfl) (by kernel_rfl) (door_met os _)) ?_
  intro W base args ds gs before hval0 hW _ _ hL _
  have hval : ∀ (j : Nat) t v, Tryd.f5.params[j]? = some t → args[j]? = some v → Value.okWide Tryd.prog W .any base t v := hval0
  have hW' := hW
  obtain ⟨p, q, hA0, hV, rfl, hfz, hnd⟩ := hW
  have hA : DataW.TrodAll enc Tryd.prog W 0 (fun _ => true) true Tryd.f5.params.toList args.toList ds p := hA0
  rw [Tryd.params5] at hA hval
  obtain ⟨v0, vs0, d0, ds0, p0, q0, hargs, rfl, rfl, h0, r0⟩ := trodAll_cons hA
  obtain ⟨v1, vs1, d1, ds1, p1, q1, rfl, rfl, rfl, h1, r1⟩ := trodAll_cons r0
  obtain ⟨v2, vs2, d2, ds2, p2, q2, rfl, rfl, rfl, h2, r2⟩ := trodAll_cons r1
  obtain ⟨v3, vs3, d3, ds3, p3, q3, rfl, rfl, rfl, h3, r3⟩ := trodAll_cons r2
  obtain ⟨v4, vs4, d4, ds4, p4, q4, rfl, rfl, rfl, h4, r4⟩ := trodAll_cons r3
  obtain ⟨v5, vs5, d5, ds5, p5, q5, rfl, rfl, rfl, h5, r5⟩ := trodAll_cons r4
  obtain ⟨rfl, rfl, rfl⟩ := trodAll_nil r5
  obtain rfl : args = #[v0, v1, v2, v3, v4, v5] := by cases args; simp_all
  obtain ⟨rfl, rfl⟩ := trodVars_none hV
  obtain ⟨a0, rfl, rfl, rfl, w0⟩ := open_int Tryd.underlying22 (hval 0 22 v0 rfl rfl) h0
  obtain ⟨a1, rfl, rfl, rfl, w1⟩ := open_int Tryd.underlying5 (hval 1 5 v1 rfl rfl) h1
  obtain ⟨a2, rfl, rfl, rfl, w2⟩ := open_int Tryd.underlying5 (hval 2 5 v2 rfl rfl) h2
  obtain ⟨a3, len3, cap3, rfl⟩ := okWide_slice Tryd.underlying26 (hval 3 26 v3 rfl rfl)
  have k3 := h3
  have lt3 : ∀ x ∈ p3, x.block < W.heap.size := by obtain ⟨m, hm⟩ := k3; exact DataW.trod_lt m _ _ _ hm
  obtain ⟨z3, w3⟩ : ∃ zs, IsStrs W a3 len3 cap3 zs := by
    obtain ⟨fuel, hf⟩ := h3
    rcases open_strings Tryd.underlying26 Tryd.underlying9 (by kernel_rfl) hf with ⟨hcs, _⟩ | ⟨x, l, c, zs, hcs, _, hl, hm, hz, _, hcell, hwz⟩
    · simp [Value.cells] at hcs
      obtain ⟨rfl, rfl, rfl⟩ := hcs
      exact ⟨[], .inl ⟨rfl, rfl, rfl, rfl⟩⟩
    · simp [Value.cells] at hcs
      obtain ⟨rfl, rfl, rfl⟩ := hcs
      exact ⟨zs, .inr ⟨_, rfl, hl, hm, by simpa using hz, hcell, hwz⟩⟩
  obtain ⟨a4, rfl, rfl, rfl, w4⟩ := open_int Tryd.underlying54 (hval 4 54 v4 rfl rfl) h4
  obtain ⟨a5, rfl, rfl, rfl, w5⟩ := open_int Tryd.underlying5 (hval 5 5 v5 rfl rfl) h5
  clear hA0 hval0
  simp only [List.append_nil] at hW'
  refine (walk W a0 w0 a1 w1 a2 w2 a3 len3 cap3 z3 w3 a4 w4 a5 w5 (of_laid hL)).mono fun e W' ⟨he, hg⟩ => ?_
  subst he
  exact ⟨_, rfl, _, _, _, [], _, [], hW', trodAll_mk1 (shut_bool Tryd.underlying4 _), (trodAll_cons_mk (shut_int Tryd.underlying22 w0) (trodAll_cons_mk (shut_int Tryd.underlying5 w1) (trodAll_cons_mk (shut_int Tryd.underlying5 w2) (trodAll_cons_mk (Below.trod laidOut (by kernel_rfl) (of_decide_eq_true (by kernel_rfl)) k3 hg lt3) (trodAll_cons_mk (shut_int Tryd.underlying54 w4) (trodAll_cons_mk (shut_int Tryd.underlying5 w5) trodAll_mk0)))))), rfl, hg.frame _, fun h => by cases h⟩
/-- The row: for every input, where the listed tables read as their initialisers lay them, the law returns true, and each argument reads as it did. -/
theorem row_proved : Rows.RecordSpoiltSaid :=
  OpenClaim.holds_of_wide 5 Tryd.f5 rfl rfl rfl rfl rfl rfl rfl ⟨rfl, rfl, rfl, rfl, rfl⟩ rfl rfl rfl rfl rfl (by kernel_rfl) Tryd.func5 (by kernel_rfl)
    (of_decide_eq_true (by kernel_rfl)) (by unfold Func.isWrapper; first | (rw [if_pos (by decide +kernel)]; kernel_rfl) | (rw [if_neg (by decide +kernel)]; exact ⟨rfl, rfl⟩))
    (fun os started H enc _ => lifted os started H enc)
/-- For every input the law returns true, and each argument reads as it did; what the listed tables hold is tied to the program's text. -/
theorem proved : Rows.RecordSpoiltCardSaid :=
  Claim7.holds_tied_plain_at .later [] [.data, .pinned] true (true, "1ae6a37698d2e24b5c769eff56949aa43403232362c262ec4616dca1f2bd7c63") false
    row_proved (fun _ h => by cases h) (by kernel_rfl) (fun _ h => by cases h) recordSpoilt_row_tie rfl ⟨rfl, rfl⟩ (by kernel_rfl) rfl
    (fun f fn hf hfn => by
      obtain rfl : f = 5 := Option.some.inj ((show Tryd.prog.funcNamed "revetment/revetmentlaw12.RecordSpoilt" = some 5 by kernel_rfl).symm.trans hf) |>.symm
      obtain rfl : fn = Tryd.f5 := (Option.some.inj (Tryd.func5.symm.trans hfn)).symm
      exact ⟨by kernel_rfl, fun j t ht => by
        rw [Tryd.params5] at ht
        have hm : t ∈ [22, 5, 5, 26, 54, 5] := by simpa using Array.mem_of_getElem? ht
        have hall : ([22, 5, 5, 26, 54, 5].all fun u => !Tryd.prog.wantsStandIn u) = true := by kernel_rfl
        exact (show Tryd.prog.wantsStandIn t = false by simpa using List.all_eq_true.1 hall t hm)⟩)
    (by kernel_rfl)
end Go.Proofs.YtmikllmpinciiaaDoor.recordSpoilt
