/- For all numbers the law SuperSpoilt returns true: a sector with one byte that is another one is no superblock. No condition. -/
import Derived.Test.YtinegeacpohlcaaSup08
import Derived.ProofKit
import Derived.OpenShut
import Derived.ShutString
import Derived.ChangeOld
import Derived.Below
namespace Go.Proofs.Ytinegeacpohlcaa.superSpoilt
open Go.ChangeShapes Go.WideShapes Go.ChangeAt Go.RowKit
open Go.ChangeMaps (open_string shut_string)

theorem fourL_inj {a b : Nat} (ha : a < 4294967296) (hb : b < 4294967296) (h : Crc.fourL a = Crc.fourL b) : a = b := by
  have q : ∀ x y : Nat, x < 256 → y < 256 → UInt8.ofNat x = UInt8.ofNat y → x = y := fun x y hx hy e => by
    have := congrArg UInt8.toNat e
    rw [UInt8.toNat_ofNat', UInt8.toNat_ofNat'] at this
    omega
  simp only [Crc.fourL, List.cons.injEq, and_true] at h
  obtain ⟨h0, h1, h2, h3⟩ := h
  have e0 := q _ _ (by omega) (by omega) h0
  have e1 := q _ _ (by omega) (by omega) h1
  have e2 := q _ _ (by omega) (by omega) h2
  have e3 := q _ _ (by omega) (by omega) h3
  omega
/-- a sector of which one byte is another one does not open -/
theorem spoilt (a b : List UInt8) {c d : UInt8} (h : c ≠ d) (hl : (a ++ c :: b).length = 64) (ho : Crc.opens (a ++ c :: b) = true) : Crc.opens (a ++ d :: b) = false := by
  have hd : (a ++ d :: b).length = 64 := by rw [← hl]; simp
  cases ho2 : Crc.opens (a ++ d :: b) with
  | false => rfl
  | true =>
    exfalso
    unfold Crc.opens at ho ho2
    rw [hl, Bool.and_eq_true, beq_iff_eq] at ho
    rw [hd, Bool.and_eq_true, beq_iff_eq] at ho2
    have e1 := ho.2
    have e2 := ho2.2
    rw [show 64 - 4 = 60 from rfl] at e1 e2
    by_cases hk : a.length < 60
    · obtain ⟨n, hn⟩ : ∃ n, 60 - a.length = n + 1 := ⟨59 - a.length, by omega⟩
      have t1 : ∀ z : UInt8, (a ++ z :: b).take 60 = a ++ z :: b.take n := fun z => by rw [List.take_append, List.take_of_length_le (by omega), hn, List.take_succ_cons]
      have t2 : ∀ z : UInt8, (a ++ z :: b).drop 60 = b.drop n := fun z => by rw [List.drop_append, List.drop_eq_nil_of_le (by omega), hn, List.drop_succ_cons, List.nil_append]
      rw [t1, t2] at e1 e2
      exact Crc.more_one (n := 0) a (b.take n) h (fourL_inj (Crc.more_lt _ _) (Crc.more_lt _ _) (e1.symm.trans e2))
    · have t1 : ∀ z : UInt8, (a ++ z :: b).take 60 = a.take 60 := fun z => by rw [List.take_append_of_le_length (by omega)]
      have t2 : ∀ z : UInt8, (a ++ z :: b).drop 60 = a.drop 60 ++ z :: b := fun z => by rw [List.drop_append_of_le_length (by omega)]
      rw [t1, t2] at e1 e2
      have := e1.trans e2.symm
      exact h (List.cons.inj (List.append_cancel_left this)).1

set_option maxRecDepth 100000 in
set_option maxHeartbeats 8000000 in
theorem walk_nat (u e : Nat) (hu : u < 18446744073709551616) (he : e < 18446744073709551616) (l : A8) (hl : l.Ok) (at_ by_ : Nat) (ha : at_ < 256) (hb : by_ < 256) (w : World) :
    Calls Try.prog 5 #[.int .u64 (u : Int), .int .u64 (e : Int), arrV l, .int .u8 (at_ : Int), .int .u8 (by_ : Int)] w fun en w' => en = .returned (.bool true) ∧ Below w.heap.size w w' := by
  have HS := fun W => some_any u e l hl W
  have ms := Sup.someS_may u e l hl
  have is := Sup.someS_in u e hu he l hl
  obtain ⟨s, hs⟩ : ∃ s, Sup.someS u e l = s := ⟨_, rfl⟩
  rw [hs] at HS ms is
  have fs := Sup.Fit.of_may ms is.uu is.ev
  have bs : Sup.mayB s = true := by simp [Sup.mayB, ms]
  have HE := fun W => Encode8_any s is W
  rw [show Sup.encE s = 0 by simp [Sup.encE, bs], show Sup.encT s = Sup.secT s by simp [Sup.encT, bs]] at HE
  have hz := Sup.secT_size fs
  have hop := Sup.secT_opens fs
  have hdE := Sup.decE_secT ms fs
  obtain ⟨A, hA⟩ : ∃ A, Sup.secT s = A := ⟨_, rfl⟩
  rw [hA] at HE hz hop hdE
  obtain ⟨i, hi⟩ : ∃ i : Nat, i = at_ % 64 := ⟨_, rfl⟩
  have hil : i < A.size := by rw [hi, hz]; omega
  have hr : (at_ : Int) % 64 = (i : Int) := by omega
  have x1 := u8_xor_nat A[i].toNat by_ A[i].toNat_lt hb
  have hxl := Nat.xor_lt_two_pow (n := 8) A[i].toNat_lt hb
  obtain ⟨c, hc⟩ : ∃ c : UInt8, c.toNat = A[i].toNat ^^^ by_ := ⟨UInt8.ofNat (A[i].toNat ^^^ by_), by rw [UInt8.toNat_ofNat']; omega⟩
  obtain ⟨t, ht⟩ : ∃ t, A.extract 0 i ++ ⟨#[c]⟩ ++ A.extract (i + 1) A.size = t := ⟨_, rfl⟩
  have hil' : i < A.data.toList.length := by simpa using hil
  have ls : A.data.toList = A.data.toList.take i ++ A[i] :: A.data.toList.drop (i + 1) := by
    conv => lhs; rw [← List.take_append_drop i A.data.toList, List.drop_eq_getElem_cons hil']
    rfl
  have lt : t.data.toList = A.data.toList.take i ++ c :: A.data.toList.drop (i + 1) := by
    rw [← ht]
    simp [List.extract_eq_take_drop]
    exact List.take_of_length_le (by simp)
  have hzl : A.data.toList.length = 64 := by simpa using hz
  have htz : t.size = 64 := by
    have h1 : t.data.toList.length = t.size := by simp
    rw [← h1, lt]
    simp only [List.length_append, List.length_take, List.length_cons, List.length_drop, hzl]
    omega
  -- what Decode answers
  have HD := fun W => Decode8_any t W
  obtain ⟨x, hx⟩ : ∃ x, Sup.decS t = x := ⟨_, rfl⟩
  obtain ⟨n, hn⟩ : ∃ n, Sup.decE t = n := ⟨_, rfl⟩
  rw [hx, hn] at HD
  have key : (by_ = 0 ∧ n = 0) ∨ (by_ ≠ 0 ∧ n = 80 ∧ x = Sup.none) := by
    by_cases h0 : by_ = 0
    · refine .inl ⟨h0, ?_⟩
      have hce : c = A[i] := by
        apply UInt8.toNat_inj.1
        rw [hc, h0, Nat.xor_zero]
      have htA : t = A := by
        apply ByteArray.ext
        apply Array.toList_inj.1
        rw [lt, hce, ← ls]
      rw [← hn, htA]; exact hdE
    · have hcne : A[i] ≠ c := by
        intro e'
        rw [← e'] at hc
        refine h0 ?_
        have : A[i].toNat ^^^ (A[i].toNat ^^^ by_) = 0 := by rw [← hc, Nat.xor_self]
        rwa [← Nat.xor_assoc, Nat.xor_self, Nat.zero_xor] at this
      have hno : Crc.opens t.data.toList = false := by
        rw [lt]
        exact spoilt _ _ hcne (by rw [← ls]; exact hzl) (by rw [← ls]; exact hop)
      have h80 := Sup.decE_sum htz hno
      exact .inr ⟨h0, by rw [← hn]; exact h80, by rw [← hx]; exact Sup.decS_bad h80 (by decide)⟩
  have hcv : ∀ (W : World) (g : Nat), W.cell? ⟨g, 0, none⟩ = some (.int .u8 ((A[i].toNat ^^^ by_ : Nat) : Int)) → (convert 43 9 (.slice (some ⟨g, 0, none⟩) 1 1)).run Try.prog W = .ok (.string ⟨#[c]⟩) W := by
    intro W g hg
    rw [← hc] at hg
    refine run_convert_bytes_back _ _ _ 5 _ 1 [c] Try.underlying43 Try.underlying5 Try.underlying9 fun j hj => ?_
    have hj0 : j = 0 := by simpa using hj
    subst hj0
    simpa [Addr.add] using hg
  have Q1 := eqSup Sup.none Sup.none
  rw [decide_eq_true rfl] at Q1
  have hsi : ((A.size : Int) != 64) = false := by rw [hz]; rfl
  have HMX : Hid (Try.prog.follows .mixedOrders = true) := by show _ = _; kernel_rfl
  have hKey : Hid _ := key
  have hi64 : i < 64 := by omega
  have hi1 : (i : Int) ≤ 64 := by omega
  have hi2 : (i : Int) < 64 := by omega
  have hi3 : (i : Int) + 1 ≤ 64 := by omega
  have hi5 : 0 ≤ (i : Int) + 1 := by omega
  have hi6 : ¬ 9223372036854775807 < min i 64 + 1 := by omega
  have hi7 : ¬ 9223372036854775807 < min i 64 + 1 + (63 - i) := by omega
  rw [hz] at ht
  have hi4 : IntKind.i64.wrap ((i : Int) + 1) = (i : Int) + 1 := by rw [IntKind.wrap_i64]; omega
  have hAz : (A.size : Int) = 64 := by omega
  clear ms is hs fs bs hop hdE hA hi hc ls lt hzl htz hx hn key hxl hl hu he
  rcases hKey.out with ⟨h0, h1⟩ | ⟨h0, h1, h2⟩
  · clear hKey
    obtain ⟨a0, a1, a2, a3, a4, a5, a6, a7⟩ := l
    obtain ⟨s0, s1, s2, s3, s4, s5, s6, s7, s8, s9⟩ := s
    obtain ⟨x0, x1, x2, x3, x4, x5, x6, x7, x8, x9⟩ := x
    unfold supV arrV at *
    dsimp only at HS HE HD Q1 ⊢
    subst h1
    have f0 : ((by_ : Int) == 0) = true := by rw [beq_iff_eq]; omega
    clear h0
    go_enter Try.func5, Try.ntmps5
    go_wp2_with fail
    refine (HS _).mono ?_
    rintro en w1 ⟨rfl, hb1⟩
    have HB1 : Hid (Below w.heap.size w w1) := ((Below.refl w.heap.size w).alloc (Nat.le_refl _) _).trans (hb1.mono (by rw [World.size_alloc]; omega))
    clear hb1
    go_wp2_with fail
    refine (HE _).mono ?_
    rintro en w2 ⟨rfl, hb2⟩
    have HB2 : Hid (Below w.heap.size w w2) := below2 HB1.out hb2
    clear hb2 HB1
    go_wp2_with fail
    refine (shown8_any _).mono ?_
    rintro en w3 ⟨rfl, hb3⟩
    have HB3 : Hid (Below w.heap.size w w3) := below2 HB2.out hb3
    clear hb3 HB2
    go_wp2_with fail
    refine wp_region_held (S := fun _ => True) HMX.out ?_
    have hS0 : (fun _ : World => True) w3.drew := trivial
    change wpAnyH _ _ _ _ _ _ _ _ w3.drew
    refine held_quiet 0 (v := ?v0q1) rfl (by kernel_rfl) (fun _ _ _ h => h) (by assumption) rfl ?hy0q1 ?rest0q1
    case hy0q1 => (intro wS hSw; (try dsimp only at hSw); go_simp; try with_reducible rfl)
    try simp only [Act.put, List.setIfInBounds_toArray, List.set_cons_zero, List.set_cons_succ]
    refine held_quiet 1 (v := ?v1q2) rfl (by kernel_rfl) (fun _ _ _ h => h) (by assumption) rfl ?hy1q2 ?rest1q2
    case hy1q2 => (intro wS hSw; (try dsimp only at hSw); go_simp; try with_reducible rfl)
    try simp only [Act.put, List.setIfInBounds_toArray, List.set_cons_zero, List.set_cons_succ]
    refine held_quiet 2 (v := ?v2q3) rfl (by kernel_rfl) (fun _ _ _ h => h) (by assumption) rfl ?hy2q3 ?rest2q3
    case hy2q3 => (intro wS hSw; (try dsimp only at hSw); go_simp; try with_reducible rfl)
    try simp only [Act.put, List.setIfInBounds_toArray, List.set_cons_zero, List.set_cons_succ]
    refine held_quiet 3 (v := ?v3q4) rfl (by kernel_rfl) (fun _ _ _ h => h) (by assumption) rfl ?hy3q4 ?rest3q4
    case hy3q4 => (intro wS hSw; (try dsimp only at hSw); go_simp; try with_reducible rfl)
    try simp only [Act.put, List.setIfInBounds_toArray, List.set_cons_zero, List.set_cons_succ]
    refine held_quiet 4 (v := ?v4q5) rfl (by kernel_rfl) (fun _ _ _ h => h) (by assumption) rfl ?hy4q5 ?rest4q5
    case hy4q5 => (intro wS hSw; (try dsimp only at hSw); go_simp; try with_reducible rfl)
    try simp only [Act.put, List.setIfInBounds_toArray, List.set_cons_zero, List.set_cons_succ]
    refine held_quiet 5 (v := ?v5q6) rfl (by kernel_rfl) (fun _ _ _ h => h) (by assumption) rfl ?hy5q6 ?rest5q6
    case hy5q6 => (intro wS hSw; (try dsimp only at hSw); go_simp; try with_reducible rfl)
    try simp only [Act.put, List.setIfInBounds_toArray, List.set_cons_zero, List.set_cons_succ]
    refine held_quiet 6 (v := ?v6q7) rfl (by kernel_rfl) (fun _ _ _ h => h) (by assumption) rfl ?hy6q7 ?rest6q7
    case hy6q7 => (intro wS hSw; (try dsimp only at hSw); go_simp; try with_reducible rfl)
    try simp only [Act.put, List.setIfInBounds_toArray, List.set_cons_zero, List.set_cons_succ]
    refine held_quiet 7 (v := ?v7q8) rfl (by kernel_rfl) (fun _ _ _ h => h) (by assumption) rfl ?hy7q8 ?rest7q8
    case hy7q8 => (intro wS hSw; (try dsimp only at hSw); go_simp; try with_reducible rfl)
    try simp only [Act.put, List.setIfInBounds_toArray, List.set_cons_zero, List.set_cons_succ]
    refine held_quiet 11 (v := ?v11q9) rfl (by kernel_rfl) (fun _ _ _ h => h) (by assumption) rfl ?hy11q9 ?rest11q9
    case hy11q9 => (intro wS hSw; (try dsimp only at hSw); go_simp; try with_reducible rfl)
    try simp only [Act.put, List.setIfInBounds_toArray, List.set_cons_zero, List.set_cons_succ]
    refine held_quiet 12 (v := ?v12q10) rfl (by kernel_rfl) (fun _ _ _ h => h) (by assumption) rfl ?hy12q10 ?rest12q10
    case hy12q10 => (intro wS hSw; (try dsimp only at hSw); go_simp; try with_reducible rfl)
    try simp only [Act.put, List.setIfInBounds_toArray, List.set_cons_zero, List.set_cons_succ]
    refine held_quiet 13 (v := ?v13q11) rfl (by kernel_rfl) (fun _ _ _ h => h) (by assumption) rfl ?hy13q11 ?rest13q11
    case hy13q11 => (intro wS hSw; (try dsimp only at hSw); go_simp; try with_reducible rfl)
    try simp only [Act.put, List.setIfInBounds_toArray, List.set_cons_zero, List.set_cons_succ]
    refine held_quiet 14 (v := ?v14q12) rfl (by kernel_rfl) (fun _ _ _ h => h) (by assumption) rfl ?hy14q12 ?rest14q12
    case hy14q12 => (intro wS hSw; (try dsimp only at hSw); go_simp; try with_reducible rfl)
    try simp only [Act.put, List.setIfInBounds_toArray, List.set_cons_zero, List.set_cons_succ]
    refine held_two 8 20 rfl rfl (by kernel_rfl) ?_ ?_
    · go_wp2
      try refine ⟨trivial, ?_⟩
      have h8 := hcv (w3.alloc (Obj.cells #[.int .u8 ((A[i].toNat ^^^ by_ : Nat) : Int)] 5)).drew w3.heap.size (Go.Joins.cell_of_block (heap_new w3 (Obj.cells #[.int .u8 ((A[i].toNat ^^^ by_ : Nat) : Int)] 5)) 0)
      refine held_two 9 20 rfl rfl (by kernel_rfl) ?_ ?_
      · go_wp2
        try refine ⟨trivial, ?_⟩
        have HB4 : Hid (Below w.heap.size w (w3.alloc (Obj.cells #[.int .u8 ((A[i].toNat ^^^ by_ : Nat) : Int)] 5))) := HB3.out.alloc HB3.out.size _
        generalize (w3.alloc (Obj.cells #[.int .u8 ((A[i].toNat ^^^ by_ : Nat) : Int)] 5)) = w4 at *
        refine held_quiet 10 (v := ?v10q13) rfl (by kernel_rfl) (fun _ _ _ h => h) (by assumption) rfl ?hy10q13 ?rest10q13
        case hy10q13 => (intro wS hSw; (try dsimp only at hSw); go_simp; try with_reducible rfl)
        try simp only [Act.put, List.setIfInBounds_toArray, List.set_cons_zero, List.set_cons_succ]
        refine held_quiet 15 (v := ?v15q14) rfl (by kernel_rfl) (fun _ _ _ h => h) (by assumption) rfl ?hy15q14 ?rest15q14
        case hy15q14 => (intro wS hSw; (try dsimp only at hSw); go_simp; try with_reducible rfl)
        try simp only [Act.put, List.setIfInBounds_toArray, List.set_cons_zero, List.set_cons_succ]
        refine held_two 16 20 rfl rfl (by kernel_rfl) ?_ ?_
        · go_wp2_with fail
          refine (HD _).mono ?_
          rintro en w6 ⟨rfl, hb6⟩
          have hb6 : Below w4.heap.size w4 w6 := (Below.refl _ w4).drew.trans hb6
          have HB6 : Hid (Below w.heap.size w w6) := below2 HB4.out hb6
          clear hb6 HB4
          go_wp2
          try refine ⟨trivial, ?_⟩
          refine held_quiet 17 (v := ?v17q15) rfl (by kernel_rfl) (fun _ _ _ h => h) (by assumption) rfl ?hy17q15 ?rest17q15
          case hy17q15 => (intro wS hSw; (try dsimp only at hSw); go_simp; try with_reducible rfl)
          try simp only [Act.put, List.setIfInBounds_toArray, List.set_cons_zero, List.set_cons_succ]
          refine held_quiet 18 (v := ?v18q16) rfl (by kernel_rfl) (fun _ _ _ h => h) (by assumption) rfl ?hy18q16 ?rest18q16
          case hy18q16 => (intro wS hSw; (try dsimp only at hSw); go_simp; try with_reducible rfl)
          try simp only [Act.put, List.setIfInBounds_toArray, List.set_cons_zero, List.set_cons_succ]
          refine held_quiet 19 (v := ?v19q17) rfl (by kernel_rfl) (fun _ _ _ h => h) (by assumption) rfl ?hy19q17 ?rest19q17
          case hy19q17 => (intro wS hSw; (try dsimp only at hSw); go_simp; try with_reducible rfl)
          try simp only [Act.put, List.setIfInBounds_toArray, List.set_cons_zero, List.set_cons_succ]
          refine held_one 20 rfl (by kernel_rfl) ?_
          go_wp2
          try refine ⟨trivial, ?_⟩
          refine held_one 21 rfl (by kernel_rfl) ?_
          go_wp2
          try refine ⟨trivial, ?_⟩
          refine held_quiet 22 (v := ?v22q18) rfl (by kernel_rfl) (fun _ _ _ h => h) (by assumption) rfl ?hy22q18 ?rest22q18
          case hy22q18 => (intro wS hSw; (try dsimp only at hSw); go_simp; try with_reducible rfl)
          try simp only [Act.put, List.setIfInBounds_toArray, List.set_cons_zero, List.set_cons_succ]
          refine held_done (by kernel_rfl) ?_
          have HB7 : Hid (Below w.heap.size w (w6.alloc (Obj.cells #[.int .u64 (x0 : Int), .int .u64 (x1 : Int), .int .i64 x2, .int .i64 x3, .int .i64 x4, .int .i64 x5, .bool x6, .int .i64 x7, .int .i64 x8, .int .i64 x9] 26))) := HB6.out.alloc HB6.out.size _
          go_wp2
          go_ret
          exact ⟨rfl, HB7.out⟩
        · go_wp2
          try refine ⟨trivial, ?_⟩
          have HZ5 : Hid _ := heap_new w4 (Obj.cells #[.int .u64 0, .int .u64 0, .int .i64 0, .int .i64 0, .int .i64 0, .int .i64 0, .bool false, .int .i64 0, .int .i64 0, .int .i64 0] 26)
          have HG : Hid (w.heap.size ≤ w4.heap.size) := HB4.out.size
          have HB5 : Hid (Below w.heap.size w (w4.alloc (Obj.cells #[.int .u64 0, .int .u64 0, .int .i64 0, .int .i64 0, .int .i64 0, .int .i64 0, .bool false, .int .i64 0, .int .i64 0, .int .i64 0] 26))) := HB4.out.alloc HB4.out.size _
          generalize hw5 : (w4.alloc (Obj.cells #[.int .u64 0, .int .u64 0, .int .i64 0, .int .i64 0, .int .i64 0, .int .i64 0, .bool false, .int .i64 0, .int .i64 0, .int .i64 0] 26)) = w5 at *
          generalize w4.heap.size = g at *
          clear hw5 HB4
          refine held_one 16 rfl (by kernel_rfl) ?_
          go_wp2_with fail
          refine (HD _).mono ?_
          rintro en w6 ⟨rfl, hb6⟩
          have hb6 : Below w5.heap.size w5 w6 := (Below.refl _ w5).drew.trans hb6
          have HB6 : Hid (Below w.heap.size w w6) := below2 HB5.out hb6
          have HZ6 : Hid _ := (hb6.block _ (Array.getElem?_eq_some_iff.1 HZ5.out).1).trans HZ5.out
          clear hb6 HB5 HZ5
          go_wp2
          try refine ⟨trivial, ?_⟩
          refine held_quiet 17 (v := ?v17q19) rfl (by kernel_rfl) (fun _ _ _ h => h) (by assumption) rfl ?hy17q19 ?rest17q19
          case hy17q19 => (intro wS hSw; (try dsimp only at hSw); go_simp; try with_reducible rfl)
          try simp only [Act.put, List.setIfInBounds_toArray, List.set_cons_zero, List.set_cons_succ]
          refine held_quiet 18 (v := ?v18q20) rfl (by kernel_rfl) (fun _ _ _ h => h) (by assumption) rfl ?hy18q20 ?rest18q20
          case hy18q20 => (intro wS hSw; (try dsimp only at hSw); go_simp; try with_reducible rfl)
          try simp only [Act.put, List.setIfInBounds_toArray, List.set_cons_zero, List.set_cons_succ]
          refine held_quiet 19 (v := ?v19q21) rfl (by kernel_rfl) (fun _ _ _ h => h) (by assumption) rfl ?hy19q21 ?rest19q21
          case hy19q21 => (intro wS hSw; (try dsimp only at hSw); go_simp; try with_reducible rfl)
          try simp only [Act.put, List.setIfInBounds_toArray, List.set_cons_zero, List.set_cons_succ]
          refine held_one 21 rfl (by kernel_rfl) ?_
          have hf6 := Go.Joins.unfrozen_of_block HZ6.out
          have hz6 := HZ6.out
          have z_0 := Go.Joins.cell_of_block hz6 0
          have z_1 := Go.Joins.cell_of_block hz6 1
          have z_2 := Go.Joins.cell_of_block hz6 2
          have z_3 := Go.Joins.cell_of_block hz6 3
          have z_4 := Go.Joins.cell_of_block hz6 4
          have z_5 := Go.Joins.cell_of_block hz6 5
          have z_6 := Go.Joins.cell_of_block hz6 6
          have z_7 := Go.Joins.cell_of_block hz6 7
          have z_8 := Go.Joins.cell_of_block hz6 8
          have z_9 := Go.Joins.cell_of_block hz6 9
          simp only [List.getElem?_toArray, List.getElem?_cons_zero, List.getElem?_cons_succ] at z_0 z_1 z_2 z_3 z_4 z_5 z_6 z_7 z_8 z_9
          clear hz6
          go_wp2
          try refine ⟨trivial, ?_⟩
          refine held_quiet 22 (v := ?v22q22) rfl (by kernel_rfl) (fun _ _ _ h => h) (by assumption) rfl ?hy22q22 ?rest22q22
          case hy22q22 => (intro wS hSw; (try dsimp only at hSw); go_simp; try with_reducible rfl)
          try simp only [Act.put, List.setIfInBounds_toArray, List.set_cons_zero, List.set_cons_succ]
          refine held_done (by kernel_rfl) ?_
          obtain ⟨r1, r2⟩ := set_sup HZ6.out (.int .u64 (x0 : Int)) (.int .u64 (x1 : Int)) (.int .i64 x2) (.int .i64 x3) (.int .i64 x4) (.int .i64 x5) (.bool x6) (.int .i64 x7) (.int .i64 x8) (.int .i64 x9)
          have R2 : Hid (Below w.heap.size w ((((((((((w6.setCell ⟨g, 0, none⟩ (.int .u64 (x0 : Int))).setCell ⟨g, 1, none⟩ (.int .u64 (x1 : Int))).setCell ⟨g, 2, none⟩ (.int .i64 x2)).setCell ⟨g, 3, none⟩ (.int .i64 x3)).setCell ⟨g, 4, none⟩ (.int .i64 x4)).setCell ⟨g, 5, none⟩ (.int .i64 x5)).setCell ⟨g, 6, none⟩ (.bool x6)).setCell ⟨g, 7, none⟩ (.int .i64 x7)).setCell ⟨g, 8, none⟩ (.int .i64 x8)).setCell ⟨g, 9, none⟩ (.int .i64 x9))) := HB6.out.trans (r2.mono HG.out)
          clear r2
          generalize ((((((((((w6.setCell ⟨g, 0, none⟩ (.int .u64 (x0 : Int))).setCell ⟨g, 1, none⟩ (.int .u64 (x1 : Int))).setCell ⟨g, 2, none⟩ (.int .i64 x2)).setCell ⟨g, 3, none⟩ (.int .i64 x3)).setCell ⟨g, 4, none⟩ (.int .i64 x4)).setCell ⟨g, 5, none⟩ (.int .i64 x5)).setCell ⟨g, 6, none⟩ (.bool x6)).setCell ⟨g, 7, none⟩ (.int .i64 x7)).setCell ⟨g, 8, none⟩ (.int .i64 x8)).setCell ⟨g, 9, none⟩ (.int .i64 x9)) = wz at *
          have y_0 := Go.Joins.cell_of_block r1 0
          have y_1 := Go.Joins.cell_of_block r1 1
          have y_2 := Go.Joins.cell_of_block r1 2
          have y_3 := Go.Joins.cell_of_block r1 3
          have y_4 := Go.Joins.cell_of_block r1 4
          have y_5 := Go.Joins.cell_of_block r1 5
          have y_6 := Go.Joins.cell_of_block r1 6
          have y_7 := Go.Joins.cell_of_block r1 7
          have y_8 := Go.Joins.cell_of_block r1 8
          have y_9 := Go.Joins.cell_of_block r1 9
          simp only [List.getElem?_toArray, List.getElem?_cons_zero, List.getElem?_cons_succ] at y_0 y_1 y_2 y_3 y_4 y_5 y_6 y_7 y_8 y_9
          clear r1 hf6 z_0 z_1 z_2 z_3 z_4 z_5 z_6 z_7 z_8 z_9
          go_wp2
          go_ret
          exact ⟨rfl, R2.out⟩
      · go_wp2
        try refine ⟨trivial, ?_⟩
        have s1 : (w3.alloc (Obj.cells #[.int .u8 ((A[i].toNat ^^^ by_ : Nat) : Int)] 5)).heap.size = w3.heap.size + 1 := World.size_alloc ..
        have hz5 := heap_new (w3.alloc (Obj.cells #[.int .u8 ((A[i].toNat ^^^ by_ : Nat) : Int)] 5)) (Obj.cells #[.int .u64 0, .int .u64 0, .int .i64 0, .int .i64 0, .int .i64 0, .int .i64 0, .bool false, .int .i64 0, .int .i64 0, .int .i64 0] 26)
        rw [s1] at hz5
        have HZ5 : Hid _ := hz5
        have HG : Hid (w.heap.size ≤ w3.heap.size + 1) := by have := HB3.out.size; show _ ≤ _; omega
        have HB5 : Hid (Below w.heap.size w ((w3.alloc (Obj.cells #[.int .u8 ((A[i].toNat ^^^ by_ : Nat) : Int)] 5)).alloc (Obj.cells #[.int .u64 0, .int .u64 0, .int .i64 0, .int .i64 0, .int .i64 0, .int .i64 0, .bool false, .int .i64 0, .int .i64 0, .int .i64 0] 26))) := (HB3.out.alloc HB3.out.size _).alloc (by have := HB3.out.size; omega) _
        have HQ : Hid (((w3.alloc (Obj.cells #[.int .u8 ((A[i].toNat ^^^ by_ : Nat) : Int)] 5)).alloc (Obj.cells #[.int .u64 0, .int .u64 0, .int .i64 0, .int .i64 0, .int .i64 0, .int .i64 0, .bool false, .int .i64 0, .int .i64 0, .int .i64 0] 26)).drew.cell? ⟨w3.heap.size, 0, none⟩ = some (.int .u8 ((A[i].toNat ^^^ by_ : Nat) : Int))) := Go.Joins.cell_of_block ((Below.heap_alloc _ (Obj.cells #[.int .u64 0, .int .u64 0, .int .i64 0, .int .i64 0, .int .i64 0, .int .i64 0, .bool false, .int .i64 0, .int .i64 0, .int .i64 0] 26) w3.heap.size (by omega)).trans (heap_new w3 (Obj.cells #[.int .u8 ((A[i].toNat ^^^ by_ : Nat) : Int)] 5))) 0
        clear s1 hz5
        generalize ((w3.alloc (Obj.cells #[.int .u8 ((A[i].toNat ^^^ by_ : Nat) : Int)] 5)).alloc (Obj.cells #[.int .u64 0, .int .u64 0, .int .i64 0, .int .i64 0, .int .i64 0, .int .i64 0, .bool false, .int .i64 0, .int .i64 0, .int .i64 0] 26)) = w5 at *
        generalize w3.heap.size + 1 = g at *
        generalize w3.heap.size = q at *
        have hcg := hcv w5.drew q HQ.out
        clear hcv
        refine held_one 9 rfl (by kernel_rfl) ?_
        go_wp2
        try refine ⟨trivial, ?_⟩
        refine held_quiet 10 (v := ?v10q23) rfl (by kernel_rfl) (fun _ _ _ h => h) (by assumption) rfl ?hy10q23 ?rest10q23
        case hy10q23 => (intro wS hSw; (try dsimp only at hSw); go_simp; try with_reducible rfl)
        try simp only [Act.put, List.setIfInBounds_toArray, List.set_cons_zero, List.set_cons_succ]
        refine held_quiet 15 (v := ?v15q24) rfl (by kernel_rfl) (fun _ _ _ h => h) (by assumption) rfl ?hy15q24 ?rest15q24
        case hy15q24 => (intro wS hSw; (try dsimp only at hSw); go_simp; try with_reducible rfl)
        try simp only [Act.put, List.setIfInBounds_toArray, List.set_cons_zero, List.set_cons_succ]
        refine held_one 16 rfl (by kernel_rfl) ?_
        go_wp2_with fail
        refine (HD _).mono ?_
        rintro en w6 ⟨rfl, hb6⟩
        have hb6 : Below w5.heap.size w5 w6 := (Below.refl _ w5).drew.trans hb6
        have HB6 : Hid (Below w.heap.size w w6) := below2 HB5.out hb6
        have HZ6 : Hid _ := (hb6.block _ (Array.getElem?_eq_some_iff.1 HZ5.out).1).trans HZ5.out
        clear hb6 HB5 HZ5
        go_wp2
        try refine ⟨trivial, ?_⟩
        refine held_quiet 17 (v := ?v17q25) rfl (by kernel_rfl) (fun _ _ _ h => h) (by assumption) rfl ?hy17q25 ?rest17q25
        case hy17q25 => (intro wS hSw; (try dsimp only at hSw); go_simp; try with_reducible rfl)
        try simp only [Act.put, List.setIfInBounds_toArray, List.set_cons_zero, List.set_cons_succ]
        refine held_quiet 18 (v := ?v18q26) rfl (by kernel_rfl) (fun _ _ _ h => h) (by assumption) rfl ?hy18q26 ?rest18q26
        case hy18q26 => (intro wS hSw; (try dsimp only at hSw); go_simp; try with_reducible rfl)
        try simp only [Act.put, List.setIfInBounds_toArray, List.set_cons_zero, List.set_cons_succ]
        refine held_quiet 19 (v := ?v19q27) rfl (by kernel_rfl) (fun _ _ _ h => h) (by assumption) rfl ?hy19q27 ?rest19q27
        case hy19q27 => (intro wS hSw; (try dsimp only at hSw); go_simp; try with_reducible rfl)
        try simp only [Act.put, List.setIfInBounds_toArray, List.set_cons_zero, List.set_cons_succ]
        refine held_one 21 rfl (by kernel_rfl) ?_
        have hf6 := Go.Joins.unfrozen_of_block HZ6.out
        have hz6 := HZ6.out
        have z_0 := Go.Joins.cell_of_block hz6 0
        have z_1 := Go.Joins.cell_of_block hz6 1
        have z_2 := Go.Joins.cell_of_block hz6 2
        have z_3 := Go.Joins.cell_of_block hz6 3
        have z_4 := Go.Joins.cell_of_block hz6 4
        have z_5 := Go.Joins.cell_of_block hz6 5
        have z_6 := Go.Joins.cell_of_block hz6 6
        have z_7 := Go.Joins.cell_of_block hz6 7
        have z_8 := Go.Joins.cell_of_block hz6 8
        have z_9 := Go.Joins.cell_of_block hz6 9
        simp only [List.getElem?_toArray, List.getElem?_cons_zero, List.getElem?_cons_succ] at z_0 z_1 z_2 z_3 z_4 z_5 z_6 z_7 z_8 z_9
        clear hz6
        go_wp2
        try refine ⟨trivial, ?_⟩
        refine held_quiet 22 (v := ?v22q28) rfl (by kernel_rfl) (fun _ _ _ h => h) (by assumption) rfl ?hy22q28 ?rest22q28
        case hy22q28 => (intro wS hSw; (try dsimp only at hSw); go_simp; try with_reducible rfl)
        try simp only [Act.put, List.setIfInBounds_toArray, List.set_cons_zero, List.set_cons_succ]
        refine held_done (by kernel_rfl) ?_
        obtain ⟨r1, r2⟩ := set_sup HZ6.out (.int .u64 (x0 : Int)) (.int .u64 (x1 : Int)) (.int .i64 x2) (.int .i64 x3) (.int .i64 x4) (.int .i64 x5) (.bool x6) (.int .i64 x7) (.int .i64 x8) (.int .i64 x9)
        have R2 : Hid (Below w.heap.size w ((((((((((w6.setCell ⟨g, 0, none⟩ (.int .u64 (x0 : Int))).setCell ⟨g, 1, none⟩ (.int .u64 (x1 : Int))).setCell ⟨g, 2, none⟩ (.int .i64 x2)).setCell ⟨g, 3, none⟩ (.int .i64 x3)).setCell ⟨g, 4, none⟩ (.int .i64 x4)).setCell ⟨g, 5, none⟩ (.int .i64 x5)).setCell ⟨g, 6, none⟩ (.bool x6)).setCell ⟨g, 7, none⟩ (.int .i64 x7)).setCell ⟨g, 8, none⟩ (.int .i64 x8)).setCell ⟨g, 9, none⟩ (.int .i64 x9))) := HB6.out.trans (r2.mono HG.out)
        clear r2
        generalize ((((((((((w6.setCell ⟨g, 0, none⟩ (.int .u64 (x0 : Int))).setCell ⟨g, 1, none⟩ (.int .u64 (x1 : Int))).setCell ⟨g, 2, none⟩ (.int .i64 x2)).setCell ⟨g, 3, none⟩ (.int .i64 x3)).setCell ⟨g, 4, none⟩ (.int .i64 x4)).setCell ⟨g, 5, none⟩ (.int .i64 x5)).setCell ⟨g, 6, none⟩ (.bool x6)).setCell ⟨g, 7, none⟩ (.int .i64 x7)).setCell ⟨g, 8, none⟩ (.int .i64 x8)).setCell ⟨g, 9, none⟩ (.int .i64 x9)) = wz at *
        have y_0 := Go.Joins.cell_of_block r1 0
        have y_1 := Go.Joins.cell_of_block r1 1
        have y_2 := Go.Joins.cell_of_block r1 2
        have y_3 := Go.Joins.cell_of_block r1 3
        have y_4 := Go.Joins.cell_of_block r1 4
        have y_5 := Go.Joins.cell_of_block r1 5
        have y_6 := Go.Joins.cell_of_block r1 6
        have y_7 := Go.Joins.cell_of_block r1 7
        have y_8 := Go.Joins.cell_of_block r1 8
        have y_9 := Go.Joins.cell_of_block r1 9
        simp only [List.getElem?_toArray, List.getElem?_cons_zero, List.getElem?_cons_succ] at y_0 y_1 y_2 y_3 y_4 y_5 y_6 y_7 y_8 y_9
        clear r1 hf6 z_0 z_1 z_2 z_3 z_4 z_5 z_6 z_7 z_8 z_9
        go_wp2
        go_ret
        exact ⟨rfl, R2.out⟩
    · go_wp2
      try refine ⟨trivial, ?_⟩
      refine held_one 8 rfl (by kernel_rfl) ?_
      go_wp2
      try refine ⟨trivial, ?_⟩
      have s1 : (w3.alloc (Obj.cells #[.int .u64 0, .int .u64 0, .int .i64 0, .int .i64 0, .int .i64 0, .int .i64 0, .bool false, .int .i64 0, .int .i64 0, .int .i64 0] 26)).heap.size = w3.heap.size + 1 := World.size_alloc ..
      have hq := heap_new (w3.alloc (Obj.cells #[.int .u64 0, .int .u64 0, .int .i64 0, .int .i64 0, .int .i64 0, .int .i64 0, .bool false, .int .i64 0, .int .i64 0, .int .i64 0] 26)) (Obj.cells #[.int .u8 ((A[i].toNat ^^^ by_ : Nat) : Int)] 5)
      rw [s1] at hq
      have HQ : Hid (((w3.alloc (Obj.cells #[.int .u64 0, .int .u64 0, .int .i64 0, .int .i64 0, .int .i64 0, .int .i64 0, .bool false, .int .i64 0, .int .i64 0, .int .i64 0] 26)).alloc (Obj.cells #[.int .u8 ((A[i].toNat ^^^ by_ : Nat) : Int)] 5)).drew.cell? ⟨w3.heap.size + 1, 0, none⟩ = some (.int .u8 ((A[i].toNat ^^^ by_ : Nat) : Int))) := Go.Joins.cell_of_block hq 0
      have HZ5 : Hid _ := (Below.heap_alloc (w3.alloc (Obj.cells #[.int .u64 0, .int .u64 0, .int .i64 0, .int .i64 0, .int .i64 0, .int .i64 0, .bool false, .int .i64 0, .int .i64 0, .int .i64 0] 26)) (Obj.cells #[.int .u8 ((A[i].toNat ^^^ by_ : Nat) : Int)] 5) w3.heap.size (by omega)).trans (heap_new w3 (Obj.cells #[.int .u64 0, .int .u64 0, .int .i64 0, .int .i64 0, .int .i64 0, .int .i64 0, .bool false, .int .i64 0, .int .i64 0, .int .i64 0] 26))
      have HG : Hid (w.heap.size ≤ w3.heap.size) := HB3.out.size
      have HB5 : Hid (Below w.heap.size w ((w3.alloc (Obj.cells #[.int .u64 0, .int .u64 0, .int .i64 0, .int .i64 0, .int .i64 0, .int .i64 0, .bool false, .int .i64 0, .int .i64 0, .int .i64 0] 26)).alloc (Obj.cells #[.int .u8 ((A[i].toNat ^^^ by_ : Nat) : Int)] 5))) := (HB3.out.alloc HB3.out.size _).alloc (by have := HB3.out.size; omega) _
      clear s1 hq
      generalize ((w3.alloc (Obj.cells #[.int .u64 0, .int .u64 0, .int .i64 0, .int .i64 0, .int .i64 0, .int .i64 0, .bool false, .int .i64 0, .int .i64 0, .int .i64 0] 26)).alloc (Obj.cells #[.int .u8 ((A[i].toNat ^^^ by_ : Nat) : Int)] 5)) = w5 at *
      generalize w3.heap.size + 1 = q at *
      generalize w3.heap.size = g at *
      have hcg := hcv w5.drew q HQ.out
      clear hcv
      refine held_one 9 rfl (by kernel_rfl) ?_
      go_wp2
      try refine ⟨trivial, ?_⟩
      refine held_quiet 10 (v := ?v10q29) rfl (by kernel_rfl) (fun _ _ _ h => h) (by assumption) rfl ?hy10q29 ?rest10q29
      case hy10q29 => (intro wS hSw; (try dsimp only at hSw); go_simp; try with_reducible rfl)
      try simp only [Act.put, List.setIfInBounds_toArray, List.set_cons_zero, List.set_cons_succ]
      refine held_quiet 15 (v := ?v15q30) rfl (by kernel_rfl) (fun _ _ _ h => h) (by assumption) rfl ?hy15q30 ?rest15q30
      case hy15q30 => (intro wS hSw; (try dsimp only at hSw); go_simp; try with_reducible rfl)
      try simp only [Act.put, List.setIfInBounds_toArray, List.set_cons_zero, List.set_cons_succ]
      refine held_one 16 rfl (by kernel_rfl) ?_
      go_wp2_with fail
      refine (HD _).mono ?_
      rintro en w6 ⟨rfl, hb6⟩
      have hb6 : Below w5.heap.size w5 w6 := (Below.refl _ w5).drew.trans hb6
      have HB6 : Hid (Below w.heap.size w w6) := below2 HB5.out hb6
      have HZ6 : Hid _ := (hb6.block _ (Array.getElem?_eq_some_iff.1 HZ5.out).1).trans HZ5.out
      clear hb6 HB5 HZ5
      go_wp2
      try refine ⟨trivial, ?_⟩
      refine held_quiet 17 (v := ?v17q31) rfl (by kernel_rfl) (fun _ _ _ h => h) (by assumption) rfl ?hy17q31 ?rest17q31
      case hy17q31 => (intro wS hSw; (try dsimp only at hSw); go_simp; try with_reducible rfl)
      try simp only [Act.put, List.setIfInBounds_toArray, List.set_cons_zero, List.set_cons_succ]
      refine held_quiet 18 (v := ?v18q32) rfl (by kernel_rfl) (fun _ _ _ h => h) (by assumption) rfl ?hy18q32 ?rest18q32
      case hy18q32 => (intro wS hSw; (try dsimp only at hSw); go_simp; try with_reducible rfl)
      try simp only [Act.put, List.setIfInBounds_toArray, List.set_cons_zero, List.set_cons_succ]
      refine held_quiet 19 (v := ?v19q33) rfl (by kernel_rfl) (fun _ _ _ h => h) (by assumption) rfl ?hy19q33 ?rest19q33
      case hy19q33 => (intro wS hSw; (try dsimp only at hSw); go_simp; try with_reducible rfl)
      try simp only [Act.put, List.setIfInBounds_toArray, List.set_cons_zero, List.set_cons_succ]
      refine held_one 21 rfl (by kernel_rfl) ?_
      have hf6 := Go.Joins.unfrozen_of_block HZ6.out
      have hz6 := HZ6.out
      have z_0 := Go.Joins.cell_of_block hz6 0
      have z_1 := Go.Joins.cell_of_block hz6 1
      have z_2 := Go.Joins.cell_of_block hz6 2
      have z_3 := Go.Joins.cell_of_block hz6 3
      have z_4 := Go.Joins.cell_of_block hz6 4
      have z_5 := Go.Joins.cell_of_block hz6 5
      have z_6 := Go.Joins.cell_of_block hz6 6
      have z_7 := Go.Joins.cell_of_block hz6 7
      have z_8 := Go.Joins.cell_of_block hz6 8
      have z_9 := Go.Joins.cell_of_block hz6 9
      simp only [List.getElem?_toArray, List.getElem?_cons_zero, List.getElem?_cons_succ] at z_0 z_1 z_2 z_3 z_4 z_5 z_6 z_7 z_8 z_9
      clear hz6
      go_wp2
      try refine ⟨trivial, ?_⟩
      refine held_quiet 22 (v := ?v22q34) rfl (by kernel_rfl) (fun _ _ _ h => h) (by assumption) rfl ?hy22q34 ?rest22q34
      case hy22q34 => (intro wS hSw; (try dsimp only at hSw); go_simp; try with_reducible rfl)
      try simp only [Act.put, List.setIfInBounds_toArray, List.set_cons_zero, List.set_cons_succ]
      refine held_done (by kernel_rfl) ?_
      obtain ⟨r1, r2⟩ := set_sup HZ6.out (.int .u64 (x0 : Int)) (.int .u64 (x1 : Int)) (.int .i64 x2) (.int .i64 x3) (.int .i64 x4) (.int .i64 x5) (.bool x6) (.int .i64 x7) (.int .i64 x8) (.int .i64 x9)
      have R2 : Hid (Below w.heap.size w ((((((((((w6.setCell ⟨g, 0, none⟩ (.int .u64 (x0 : Int))).setCell ⟨g, 1, none⟩ (.int .u64 (x1 : Int))).setCell ⟨g, 2, none⟩ (.int .i64 x2)).setCell ⟨g, 3, none⟩ (.int .i64 x3)).setCell ⟨g, 4, none⟩ (.int .i64 x4)).setCell ⟨g, 5, none⟩ (.int .i64 x5)).setCell ⟨g, 6, none⟩ (.bool x6)).setCell ⟨g, 7, none⟩ (.int .i64 x7)).setCell ⟨g, 8, none⟩ (.int .i64 x8)).setCell ⟨g, 9, none⟩ (.int .i64 x9))) := HB6.out.trans (r2.mono HG.out)
      clear r2
      generalize ((((((((((w6.setCell ⟨g, 0, none⟩ (.int .u64 (x0 : Int))).setCell ⟨g, 1, none⟩ (.int .u64 (x1 : Int))).setCell ⟨g, 2, none⟩ (.int .i64 x2)).setCell ⟨g, 3, none⟩ (.int .i64 x3)).setCell ⟨g, 4, none⟩ (.int .i64 x4)).setCell ⟨g, 5, none⟩ (.int .i64 x5)).setCell ⟨g, 6, none⟩ (.bool x6)).setCell ⟨g, 7, none⟩ (.int .i64 x7)).setCell ⟨g, 8, none⟩ (.int .i64 x8)).setCell ⟨g, 9, none⟩ (.int .i64 x9)) = wz at *
      have y_0 := Go.Joins.cell_of_block r1 0
      have y_1 := Go.Joins.cell_of_block r1 1
      have y_2 := Go.Joins.cell_of_block r1 2
      have y_3 := Go.Joins.cell_of_block r1 3
      have y_4 := Go.Joins.cell_of_block r1 4
      have y_5 := Go.Joins.cell_of_block r1 5
      have y_6 := Go.Joins.cell_of_block r1 6
      have y_7 := Go.Joins.cell_of_block r1 7
      have y_8 := Go.Joins.cell_of_block r1 8
      have y_9 := Go.Joins.cell_of_block r1 9
      simp only [List.getElem?_toArray, List.getElem?_cons_zero, List.getElem?_cons_succ] at y_0 y_1 y_2 y_3 y_4 y_5 y_6 y_7 y_8 y_9
      clear r1 hf6 z_0 z_1 z_2 z_3 z_4 z_5 z_6 z_7 z_8 z_9
      go_wp2
      go_ret
      exact ⟨rfl, R2.out⟩
  · clear hKey
    obtain ⟨a0, a1, a2, a3, a4, a5, a6, a7⟩ := l
    obtain ⟨s0, s1, s2, s3, s4, s5, s6, s7, s8, s9⟩ := s
    subst h2
    unfold supV arrV Sup.none at *
    dsimp only at HS HE HD Q1 ⊢
    rw [show ((0 : Nat) : Int) = 0 from rfl] at HD Q1
    subst h1
    have f0 : ((by_ : Int) == 0) = false := by rw [beq_eq_false_iff_ne]; omega
    clear h0
    go_enter Try.func5, Try.ntmps5
    go_wp2_with fail
    refine (HS _).mono ?_
    rintro en w1 ⟨rfl, hb1⟩
    have HB1 : Hid (Below w.heap.size w w1) := ((Below.refl w.heap.size w).alloc (Nat.le_refl _) _).trans (hb1.mono (by rw [World.size_alloc]; omega))
    clear hb1
    go_wp2_with fail
    refine (HE _).mono ?_
    rintro en w2 ⟨rfl, hb2⟩
    have HB2 : Hid (Below w.heap.size w w2) := below2 HB1.out hb2
    clear hb2 HB1
    go_wp2_with fail
    refine (shown8_any _).mono ?_
    rintro en w3 ⟨rfl, hb3⟩
    have HB3 : Hid (Below w.heap.size w w3) := below2 HB2.out hb3
    clear hb3 HB2
    go_wp2_with fail
    refine wp_region_held (S := fun _ => True) HMX.out ?_
    have hS0 : (fun _ : World => True) w3.drew := trivial
    change wpAnyH _ _ _ _ _ _ _ _ w3.drew
    refine held_quiet 0 (v := ?v0q35) rfl (by kernel_rfl) (fun _ _ _ h => h) (by assumption) rfl ?hy0q35 ?rest0q35
    case hy0q35 => (intro wS hSw; (try dsimp only at hSw); go_simp; try with_reducible rfl)
    try simp only [Act.put, List.setIfInBounds_toArray, List.set_cons_zero, List.set_cons_succ]
    refine held_quiet 1 (v := ?v1q36) rfl (by kernel_rfl) (fun _ _ _ h => h) (by assumption) rfl ?hy1q36 ?rest1q36
    case hy1q36 => (intro wS hSw; (try dsimp only at hSw); go_simp; try with_reducible rfl)
    try simp only [Act.put, List.setIfInBounds_toArray, List.set_cons_zero, List.set_cons_succ]
    refine held_quiet 2 (v := ?v2q37) rfl (by kernel_rfl) (fun _ _ _ h => h) (by assumption) rfl ?hy2q37 ?rest2q37
    case hy2q37 => (intro wS hSw; (try dsimp only at hSw); go_simp; try with_reducible rfl)
    try simp only [Act.put, List.setIfInBounds_toArray, List.set_cons_zero, List.set_cons_succ]
    refine held_quiet 3 (v := ?v3q38) rfl (by kernel_rfl) (fun _ _ _ h => h) (by assumption) rfl ?hy3q38 ?rest3q38
    case hy3q38 => (intro wS hSw; (try dsimp only at hSw); go_simp; try with_reducible rfl)
    try simp only [Act.put, List.setIfInBounds_toArray, List.set_cons_zero, List.set_cons_succ]
    refine held_quiet 4 (v := ?v4q39) rfl (by kernel_rfl) (fun _ _ _ h => h) (by assumption) rfl ?hy4q39 ?rest4q39
    case hy4q39 => (intro wS hSw; (try dsimp only at hSw); go_simp; try with_reducible rfl)
    try simp only [Act.put, List.setIfInBounds_toArray, List.set_cons_zero, List.set_cons_succ]
    refine held_quiet 5 (v := ?v5q40) rfl (by kernel_rfl) (fun _ _ _ h => h) (by assumption) rfl ?hy5q40 ?rest5q40
    case hy5q40 => (intro wS hSw; (try dsimp only at hSw); go_simp; try with_reducible rfl)
    try simp only [Act.put, List.setIfInBounds_toArray, List.set_cons_zero, List.set_cons_succ]
    refine held_quiet 6 (v := ?v6q41) rfl (by kernel_rfl) (fun _ _ _ h => h) (by assumption) rfl ?hy6q41 ?rest6q41
    case hy6q41 => (intro wS hSw; (try dsimp only at hSw); go_simp; try with_reducible rfl)
    try simp only [Act.put, List.setIfInBounds_toArray, List.set_cons_zero, List.set_cons_succ]
    refine held_quiet 7 (v := ?v7q42) rfl (by kernel_rfl) (fun _ _ _ h => h) (by assumption) rfl ?hy7q42 ?rest7q42
    case hy7q42 => (intro wS hSw; (try dsimp only at hSw); go_simp; try with_reducible rfl)
    try simp only [Act.put, List.setIfInBounds_toArray, List.set_cons_zero, List.set_cons_succ]
    refine held_quiet 11 (v := ?v11q43) rfl (by kernel_rfl) (fun _ _ _ h => h) (by assumption) rfl ?hy11q43 ?rest11q43
    case hy11q43 => (intro wS hSw; (try dsimp only at hSw); go_simp; try with_reducible rfl)
    try simp only [Act.put, List.setIfInBounds_toArray, List.set_cons_zero, List.set_cons_succ]
    refine held_quiet 12 (v := ?v12q44) rfl (by kernel_rfl) (fun _ _ _ h => h) (by assumption) rfl ?hy12q44 ?rest12q44
    case hy12q44 => (intro wS hSw; (try dsimp only at hSw); go_simp; try with_reducible rfl)
    try simp only [Act.put, List.setIfInBounds_toArray, List.set_cons_zero, List.set_cons_succ]
    refine held_quiet 13 (v := ?v13q45) rfl (by kernel_rfl) (fun _ _ _ h => h) (by assumption) rfl ?hy13q45 ?rest13q45
    case hy13q45 => (intro wS hSw; (try dsimp only at hSw); go_simp; try with_reducible rfl)
    try simp only [Act.put, List.setIfInBounds_toArray, List.set_cons_zero, List.set_cons_succ]
    refine held_quiet 14 (v := ?v14q46) rfl (by kernel_rfl) (fun _ _ _ h => h) (by assumption) rfl ?hy14q46 ?rest14q46
    case hy14q46 => (intro wS hSw; (try dsimp only at hSw); go_simp; try with_reducible rfl)
    try simp only [Act.put, List.setIfInBounds_toArray, List.set_cons_zero, List.set_cons_succ]
    refine held_two 8 20 rfl rfl (by kernel_rfl) ?_ ?_
    · go_wp2
      try refine ⟨trivial, ?_⟩
      have h8 := hcv (w3.alloc (Obj.cells #[.int .u8 ((A[i].toNat ^^^ by_ : Nat) : Int)] 5)).drew w3.heap.size (Go.Joins.cell_of_block (heap_new w3 (Obj.cells #[.int .u8 ((A[i].toNat ^^^ by_ : Nat) : Int)] 5)) 0)
      refine held_two 9 20 rfl rfl (by kernel_rfl) ?_ ?_
      · go_wp2
        try refine ⟨trivial, ?_⟩
        have HB4 : Hid (Below w.heap.size w (w3.alloc (Obj.cells #[.int .u8 ((A[i].toNat ^^^ by_ : Nat) : Int)] 5))) := HB3.out.alloc HB3.out.size _
        generalize (w3.alloc (Obj.cells #[.int .u8 ((A[i].toNat ^^^ by_ : Nat) : Int)] 5)) = w4 at *
        refine held_quiet 10 (v := ?v10q47) rfl (by kernel_rfl) (fun _ _ _ h => h) (by assumption) rfl ?hy10q47 ?rest10q47
        case hy10q47 => (intro wS hSw; (try dsimp only at hSw); go_simp; try with_reducible rfl)
        try simp only [Act.put, List.setIfInBounds_toArray, List.set_cons_zero, List.set_cons_succ]
        refine held_quiet 15 (v := ?v15q48) rfl (by kernel_rfl) (fun _ _ _ h => h) (by assumption) rfl ?hy15q48 ?rest15q48
        case hy15q48 => (intro wS hSw; (try dsimp only at hSw); go_simp; try with_reducible rfl)
        try simp only [Act.put, List.setIfInBounds_toArray, List.set_cons_zero, List.set_cons_succ]
        refine held_two 16 20 rfl rfl (by kernel_rfl) ?_ ?_
        · go_wp2_with fail
          refine (HD _).mono ?_
          rintro en w6 ⟨rfl, hb6⟩
          have hb6 : Below w4.heap.size w4 w6 := (Below.refl _ w4).drew.trans hb6
          have HB6 : Hid (Below w.heap.size w w6) := below2 HB4.out hb6
          clear hb6 HB4
          go_wp2
          try refine ⟨trivial, ?_⟩
          refine held_quiet 17 (v := ?v17q49) rfl (by kernel_rfl) (fun _ _ _ h => h) (by assumption) rfl ?hy17q49 ?rest17q49
          case hy17q49 => (intro wS hSw; (try dsimp only at hSw); go_simp; try with_reducible rfl)
          try simp only [Act.put, List.setIfInBounds_toArray, List.set_cons_zero, List.set_cons_succ]
          refine held_quiet 18 (v := ?v18q50) rfl (by kernel_rfl) (fun _ _ _ h => h) (by assumption) rfl ?hy18q50 ?rest18q50
          case hy18q50 => (intro wS hSw; (try dsimp only at hSw); go_simp; try with_reducible rfl)
          try simp only [Act.put, List.setIfInBounds_toArray, List.set_cons_zero, List.set_cons_succ]
          refine held_quiet 19 (v := ?v19q51) rfl (by kernel_rfl) (fun _ _ _ h => h) (by assumption) rfl ?hy19q51 ?rest19q51
          case hy19q51 => (intro wS hSw; (try dsimp only at hSw); go_simp; try with_reducible rfl)
          try simp only [Act.put, List.setIfInBounds_toArray, List.set_cons_zero, List.set_cons_succ]
          refine held_one 20 rfl (by kernel_rfl) ?_
          go_wp2
          try refine ⟨trivial, ?_⟩
          refine held_one 21 rfl (by kernel_rfl) ?_
          go_wp2
          try refine ⟨trivial, ?_⟩
          refine held_quiet 22 (v := ?v22q52) rfl (by kernel_rfl) (fun _ _ _ h => h) (by assumption) rfl ?hy22q52 ?rest22q52
          case hy22q52 => (intro wS hSw; (try dsimp only at hSw); go_simp; try with_reducible rfl)
          try simp only [Act.put, List.setIfInBounds_toArray, List.set_cons_zero, List.set_cons_succ]
          refine held_done (by kernel_rfl) ?_
          have HB7 : Hid (Below w.heap.size w (w6.alloc (Obj.cells #[.int .u64 0, .int .u64 0, .int .i64 0, .int .i64 0, .int .i64 0, .int .i64 0, .bool false, .int .i64 0, .int .i64 0, .int .i64 0] 26))) := HB6.out.alloc HB6.out.size _
          go_wp2
          go_ret
          exact ⟨rfl, HB7.out⟩
        · go_wp2
          try refine ⟨trivial, ?_⟩
          have HZ5 : Hid _ := heap_new w4 (Obj.cells #[.int .u64 0, .int .u64 0, .int .i64 0, .int .i64 0, .int .i64 0, .int .i64 0, .bool false, .int .i64 0, .int .i64 0, .int .i64 0] 26)
          have HG : Hid (w.heap.size ≤ w4.heap.size) := HB4.out.size
          have HB5 : Hid (Below w.heap.size w (w4.alloc (Obj.cells #[.int .u64 0, .int .u64 0, .int .i64 0, .int .i64 0, .int .i64 0, .int .i64 0, .bool false, .int .i64 0, .int .i64 0, .int .i64 0] 26))) := HB4.out.alloc HB4.out.size _
          generalize hw5 : (w4.alloc (Obj.cells #[.int .u64 0, .int .u64 0, .int .i64 0, .int .i64 0, .int .i64 0, .int .i64 0, .bool false, .int .i64 0, .int .i64 0, .int .i64 0] 26)) = w5 at *
          generalize w4.heap.size = g at *
          clear hw5 HB4
          refine held_one 16 rfl (by kernel_rfl) ?_
          go_wp2_with fail
          refine (HD _).mono ?_
          rintro en w6 ⟨rfl, hb6⟩
          have hb6 : Below w5.heap.size w5 w6 := (Below.refl _ w5).drew.trans hb6
          have HB6 : Hid (Below w.heap.size w w6) := below2 HB5.out hb6
          have HZ6 : Hid _ := (hb6.block _ (Array.getElem?_eq_some_iff.1 HZ5.out).1).trans HZ5.out
          clear hb6 HB5 HZ5
          go_wp2
          try refine ⟨trivial, ?_⟩
          refine held_quiet 17 (v := ?v17q53) rfl (by kernel_rfl) (fun _ _ _ h => h) (by assumption) rfl ?hy17q53 ?rest17q53
          case hy17q53 => (intro wS hSw; (try dsimp only at hSw); go_simp; try with_reducible rfl)
          try simp only [Act.put, List.setIfInBounds_toArray, List.set_cons_zero, List.set_cons_succ]
          refine held_quiet 18 (v := ?v18q54) rfl (by kernel_rfl) (fun _ _ _ h => h) (by assumption) rfl ?hy18q54 ?rest18q54
          case hy18q54 => (intro wS hSw; (try dsimp only at hSw); go_simp; try with_reducible rfl)
          try simp only [Act.put, List.setIfInBounds_toArray, List.set_cons_zero, List.set_cons_succ]
          refine held_quiet 19 (v := ?v19q55) rfl (by kernel_rfl) (fun _ _ _ h => h) (by assumption) rfl ?hy19q55 ?rest19q55
          case hy19q55 => (intro wS hSw; (try dsimp only at hSw); go_simp; try with_reducible rfl)
          try simp only [Act.put, List.setIfInBounds_toArray, List.set_cons_zero, List.set_cons_succ]
          refine held_one 21 rfl (by kernel_rfl) ?_
          have hf6 := Go.Joins.unfrozen_of_block HZ6.out
          have hz6 := HZ6.out
          have z_0 := Go.Joins.cell_of_block hz6 0
          have z_1 := Go.Joins.cell_of_block hz6 1
          have z_2 := Go.Joins.cell_of_block hz6 2
          have z_3 := Go.Joins.cell_of_block hz6 3
          have z_4 := Go.Joins.cell_of_block hz6 4
          have z_5 := Go.Joins.cell_of_block hz6 5
          have z_6 := Go.Joins.cell_of_block hz6 6
          have z_7 := Go.Joins.cell_of_block hz6 7
          have z_8 := Go.Joins.cell_of_block hz6 8
          have z_9 := Go.Joins.cell_of_block hz6 9
          simp only [List.getElem?_toArray, List.getElem?_cons_zero, List.getElem?_cons_succ] at z_0 z_1 z_2 z_3 z_4 z_5 z_6 z_7 z_8 z_9
          clear hz6
          go_wp2
          try refine ⟨trivial, ?_⟩
          refine held_quiet 22 (v := ?v22q56) rfl (by kernel_rfl) (fun _ _ _ h => h) (by assumption) rfl ?hy22q56 ?rest22q56
          case hy22q56 => (intro wS hSw; (try dsimp only at hSw); go_simp; try with_reducible rfl)
          try simp only [Act.put, List.setIfInBounds_toArray, List.set_cons_zero, List.set_cons_succ]
          refine held_done (by kernel_rfl) ?_
          obtain ⟨r1, r2⟩ := set_sup HZ6.out (.int .u64 0) (.int .u64 0) (.int .i64 0) (.int .i64 0) (.int .i64 0) (.int .i64 0) (.bool false) (.int .i64 0) (.int .i64 0) (.int .i64 0)
          have R2 : Hid (Below w.heap.size w ((((((((((w6.setCell ⟨g, 0, none⟩ (.int .u64 0)).setCell ⟨g, 1, none⟩ (.int .u64 0)).setCell ⟨g, 2, none⟩ (.int .i64 0)).setCell ⟨g, 3, none⟩ (.int .i64 0)).setCell ⟨g, 4, none⟩ (.int .i64 0)).setCell ⟨g, 5, none⟩ (.int .i64 0)).setCell ⟨g, 6, none⟩ (.bool false)).setCell ⟨g, 7, none⟩ (.int .i64 0)).setCell ⟨g, 8, none⟩ (.int .i64 0)).setCell ⟨g, 9, none⟩ (.int .i64 0))) := HB6.out.trans (r2.mono HG.out)
          clear r2
          generalize ((((((((((w6.setCell ⟨g, 0, none⟩ (.int .u64 0)).setCell ⟨g, 1, none⟩ (.int .u64 0)).setCell ⟨g, 2, none⟩ (.int .i64 0)).setCell ⟨g, 3, none⟩ (.int .i64 0)).setCell ⟨g, 4, none⟩ (.int .i64 0)).setCell ⟨g, 5, none⟩ (.int .i64 0)).setCell ⟨g, 6, none⟩ (.bool false)).setCell ⟨g, 7, none⟩ (.int .i64 0)).setCell ⟨g, 8, none⟩ (.int .i64 0)).setCell ⟨g, 9, none⟩ (.int .i64 0)) = wz at *
          have y_0 := Go.Joins.cell_of_block r1 0
          have y_1 := Go.Joins.cell_of_block r1 1
          have y_2 := Go.Joins.cell_of_block r1 2
          have y_3 := Go.Joins.cell_of_block r1 3
          have y_4 := Go.Joins.cell_of_block r1 4
          have y_5 := Go.Joins.cell_of_block r1 5
          have y_6 := Go.Joins.cell_of_block r1 6
          have y_7 := Go.Joins.cell_of_block r1 7
          have y_8 := Go.Joins.cell_of_block r1 8
          have y_9 := Go.Joins.cell_of_block r1 9
          simp only [List.getElem?_toArray, List.getElem?_cons_zero, List.getElem?_cons_succ] at y_0 y_1 y_2 y_3 y_4 y_5 y_6 y_7 y_8 y_9
          clear r1 hf6 z_0 z_1 z_2 z_3 z_4 z_5 z_6 z_7 z_8 z_9
          go_wp2
          go_ret
          exact ⟨rfl, R2.out⟩
      · go_wp2
        try refine ⟨trivial, ?_⟩
        have s1 : (w3.alloc (Obj.cells #[.int .u8 ((A[i].toNat ^^^ by_ : Nat) : Int)] 5)).heap.size = w3.heap.size + 1 := World.size_alloc ..
        have hz5 := heap_new (w3.alloc (Obj.cells #[.int .u8 ((A[i].toNat ^^^ by_ : Nat) : Int)] 5)) (Obj.cells #[.int .u64 0, .int .u64 0, .int .i64 0, .int .i64 0, .int .i64 0, .int .i64 0, .bool false, .int .i64 0, .int .i64 0, .int .i64 0] 26)
        rw [s1] at hz5
        have HZ5 : Hid _ := hz5
        have HG : Hid (w.heap.size ≤ w3.heap.size + 1) := by have := HB3.out.size; show _ ≤ _; omega
        have HB5 : Hid (Below w.heap.size w ((w3.alloc (Obj.cells #[.int .u8 ((A[i].toNat ^^^ by_ : Nat) : Int)] 5)).alloc (Obj.cells #[.int .u64 0, .int .u64 0, .int .i64 0, .int .i64 0, .int .i64 0, .int .i64 0, .bool false, .int .i64 0, .int .i64 0, .int .i64 0] 26))) := (HB3.out.alloc HB3.out.size _).alloc (by have := HB3.out.size; omega) _
        have HQ : Hid (((w3.alloc (Obj.cells #[.int .u8 ((A[i].toNat ^^^ by_ : Nat) : Int)] 5)).alloc (Obj.cells #[.int .u64 0, .int .u64 0, .int .i64 0, .int .i64 0, .int .i64 0, .int .i64 0, .bool false, .int .i64 0, .int .i64 0, .int .i64 0] 26)).drew.cell? ⟨w3.heap.size, 0, none⟩ = some (.int .u8 ((A[i].toNat ^^^ by_ : Nat) : Int))) := Go.Joins.cell_of_block ((Below.heap_alloc _ (Obj.cells #[.int .u64 0, .int .u64 0, .int .i64 0, .int .i64 0, .int .i64 0, .int .i64 0, .bool false, .int .i64 0, .int .i64 0, .int .i64 0] 26) w3.heap.size (by omega)).trans (heap_new w3 (Obj.cells #[.int .u8 ((A[i].toNat ^^^ by_ : Nat) : Int)] 5))) 0
        clear s1 hz5
        generalize ((w3.alloc (Obj.cells #[.int .u8 ((A[i].toNat ^^^ by_ : Nat) : Int)] 5)).alloc (Obj.cells #[.int .u64 0, .int .u64 0, .int .i64 0, .int .i64 0, .int .i64 0, .int .i64 0, .bool false, .int .i64 0, .int .i64 0, .int .i64 0] 26)) = w5 at *
        generalize w3.heap.size + 1 = g at *
        generalize w3.heap.size = q at *
        have hcg := hcv w5.drew q HQ.out
        clear hcv
        refine held_one 9 rfl (by kernel_rfl) ?_
        go_wp2
        try refine ⟨trivial, ?_⟩
        refine held_quiet 10 (v := ?v10q57) rfl (by kernel_rfl) (fun _ _ _ h => h) (by assumption) rfl ?hy10q57 ?rest10q57
        case hy10q57 => (intro wS hSw; (try dsimp only at hSw); go_simp; try with_reducible rfl)
        try simp only [Act.put, List.setIfInBounds_toArray, List.set_cons_zero, List.set_cons_succ]
        refine held_quiet 15 (v := ?v15q58) rfl (by kernel_rfl) (fun _ _ _ h => h) (by assumption) rfl ?hy15q58 ?rest15q58
        case hy15q58 => (intro wS hSw; (try dsimp only at hSw); go_simp; try with_reducible rfl)
        try simp only [Act.put, List.setIfInBounds_toArray, List.set_cons_zero, List.set_cons_succ]
        refine held_one 16 rfl (by kernel_rfl) ?_
        go_wp2_with fail
        refine (HD _).mono ?_
        rintro en w6 ⟨rfl, hb6⟩
        have hb6 : Below w5.heap.size w5 w6 := (Below.refl _ w5).drew.trans hb6
        have HB6 : Hid (Below w.heap.size w w6) := below2 HB5.out hb6
        have HZ6 : Hid _ := (hb6.block _ (Array.getElem?_eq_some_iff.1 HZ5.out).1).trans HZ5.out
        clear hb6 HB5 HZ5
        go_wp2
        try refine ⟨trivial, ?_⟩
        refine held_quiet 17 (v := ?v17q59) rfl (by kernel_rfl) (fun _ _ _ h => h) (by assumption) rfl ?hy17q59 ?rest17q59
        case hy17q59 => (intro wS hSw; (try dsimp only at hSw); go_simp; try with_reducible rfl)
        try simp only [Act.put, List.setIfInBounds_toArray, List.set_cons_zero, List.set_cons_succ]
        refine held_quiet 18 (v := ?v18q60) rfl (by kernel_rfl) (fun _ _ _ h => h) (by assumption) rfl ?hy18q60 ?rest18q60
        case hy18q60 => (intro wS hSw; (try dsimp only at hSw); go_simp; try with_reducible rfl)
        try simp only [Act.put, List.setIfInBounds_toArray, List.set_cons_zero, List.set_cons_succ]
        refine held_quiet 19 (v := ?v19q61) rfl (by kernel_rfl) (fun _ _ _ h => h) (by assumption) rfl ?hy19q61 ?rest19q61
        case hy19q61 => (intro wS hSw; (try dsimp only at hSw); go_simp; try with_reducible rfl)
        try simp only [Act.put, List.setIfInBounds_toArray, List.set_cons_zero, List.set_cons_succ]
        refine held_one 21 rfl (by kernel_rfl) ?_
        have hf6 := Go.Joins.unfrozen_of_block HZ6.out
        have hz6 := HZ6.out
        have z_0 := Go.Joins.cell_of_block hz6 0
        have z_1 := Go.Joins.cell_of_block hz6 1
        have z_2 := Go.Joins.cell_of_block hz6 2
        have z_3 := Go.Joins.cell_of_block hz6 3
        have z_4 := Go.Joins.cell_of_block hz6 4
        have z_5 := Go.Joins.cell_of_block hz6 5
        have z_6 := Go.Joins.cell_of_block hz6 6
        have z_7 := Go.Joins.cell_of_block hz6 7
        have z_8 := Go.Joins.cell_of_block hz6 8
        have z_9 := Go.Joins.cell_of_block hz6 9
        simp only [List.getElem?_toArray, List.getElem?_cons_zero, List.getElem?_cons_succ] at z_0 z_1 z_2 z_3 z_4 z_5 z_6 z_7 z_8 z_9
        clear hz6
        go_wp2
        try refine ⟨trivial, ?_⟩
        refine held_quiet 22 (v := ?v22q62) rfl (by kernel_rfl) (fun _ _ _ h => h) (by assumption) rfl ?hy22q62 ?rest22q62
        case hy22q62 => (intro wS hSw; (try dsimp only at hSw); go_simp; try with_reducible rfl)
        try simp only [Act.put, List.setIfInBounds_toArray, List.set_cons_zero, List.set_cons_succ]
        refine held_done (by kernel_rfl) ?_
        obtain ⟨r1, r2⟩ := set_sup HZ6.out (.int .u64 0) (.int .u64 0) (.int .i64 0) (.int .i64 0) (.int .i64 0) (.int .i64 0) (.bool false) (.int .i64 0) (.int .i64 0) (.int .i64 0)
        have R2 : Hid (Below w.heap.size w ((((((((((w6.setCell ⟨g, 0, none⟩ (.int .u64 0)).setCell ⟨g, 1, none⟩ (.int .u64 0)).setCell ⟨g, 2, none⟩ (.int .i64 0)).setCell ⟨g, 3, none⟩ (.int .i64 0)).setCell ⟨g, 4, none⟩ (.int .i64 0)).setCell ⟨g, 5, none⟩ (.int .i64 0)).setCell ⟨g, 6, none⟩ (.bool false)).setCell ⟨g, 7, none⟩ (.int .i64 0)).setCell ⟨g, 8, none⟩ (.int .i64 0)).setCell ⟨g, 9, none⟩ (.int .i64 0))) := HB6.out.trans (r2.mono HG.out)
        clear r2
        generalize ((((((((((w6.setCell ⟨g, 0, none⟩ (.int .u64 0)).setCell ⟨g, 1, none⟩ (.int .u64 0)).setCell ⟨g, 2, none⟩ (.int .i64 0)).setCell ⟨g, 3, none⟩ (.int .i64 0)).setCell ⟨g, 4, none⟩ (.int .i64 0)).setCell ⟨g, 5, none⟩ (.int .i64 0)).setCell ⟨g, 6, none⟩ (.bool false)).setCell ⟨g, 7, none⟩ (.int .i64 0)).setCell ⟨g, 8, none⟩ (.int .i64 0)).setCell ⟨g, 9, none⟩ (.int .i64 0)) = wz at *
        have y_0 := Go.Joins.cell_of_block r1 0
        have y_1 := Go.Joins.cell_of_block r1 1
        have y_2 := Go.Joins.cell_of_block r1 2
        have y_3 := Go.Joins.cell_of_block r1 3
        have y_4 := Go.Joins.cell_of_block r1 4
        have y_5 := Go.Joins.cell_of_block r1 5
        have y_6 := Go.Joins.cell_of_block r1 6
        have y_7 := Go.Joins.cell_of_block r1 7
        have y_8 := Go.Joins.cell_of_block r1 8
        have y_9 := Go.Joins.cell_of_block r1 9
        simp only [List.getElem?_toArray, List.getElem?_cons_zero, List.getElem?_cons_succ] at y_0 y_1 y_2 y_3 y_4 y_5 y_6 y_7 y_8 y_9
        clear r1 hf6 z_0 z_1 z_2 z_3 z_4 z_5 z_6 z_7 z_8 z_9
        go_wp2
        go_ret
        exact ⟨rfl, R2.out⟩
    · go_wp2
      try refine ⟨trivial, ?_⟩
      refine held_one 8 rfl (by kernel_rfl) ?_
      go_wp2
      try refine ⟨trivial, ?_⟩
      have s1 : (w3.alloc (Obj.cells #[.int .u64 0, .int .u64 0, .int .i64 0, .int .i64 0, .int .i64 0, .int .i64 0, .bool false, .int .i64 0, .int .i64 0, .int .i64 0] 26)).heap.size = w3.heap.size + 1 := World.size_alloc ..
      have hq := heap_new (w3.alloc (Obj.cells #[.int .u64 0, .int .u64 0, .int .i64 0, .int .i64 0, .int .i64 0, .int .i64 0, .bool false, .int .i64 0, .int .i64 0, .int .i64 0] 26)) (Obj.cells #[.int .u8 ((A[i].toNat ^^^ by_ : Nat) : Int)] 5)
      rw [s1] at hq
      have HQ : Hid (((w3.alloc (Obj.cells #[.int .u64 0, .int .u64 0, .int .i64 0, .int .i64 0, .int .i64 0, .int .i64 0, .bool false, .int .i64 0, .int .i64 0, .int .i64 0] 26)).alloc (Obj.cells #[.int .u8 ((A[i].toNat ^^^ by_ : Nat) : Int)] 5)).drew.cell? ⟨w3.heap.size + 1, 0, none⟩ = some (.int .u8 ((A[i].toNat ^^^ by_ : Nat) : Int))) := Go.Joins.cell_of_block hq 0
      have HZ5 : Hid _ := (Below.heap_alloc (w3.alloc (Obj.cells #[.int .u64 0, .int .u64 0, .int .i64 0, .int .i64 0, .int .i64 0, .int .i64 0, .bool false, .int .i64 0, .int .i64 0, .int .i64 0] 26)) (Obj.cells #[.int .u8 ((A[i].toNat ^^^ by_ : Nat) : Int)] 5) w3.heap.size (by omega)).trans (heap_new w3 (Obj.cells #[.int .u64 0, .int .u64 0, .int .i64 0, .int .i64 0, .int .i64 0, .int .i64 0, .bool false, .int .i64 0, .int .i64 0, .int .i64 0] 26))
      have HG : Hid (w.heap.size ≤ w3.heap.size) := HB3.out.size
      have HB5 : Hid (Below w.heap.size w ((w3.alloc (Obj.cells #[.int .u64 0, .int .u64 0, .int .i64 0, .int .i64 0, .int .i64 0, .int .i64 0, .bool false, .int .i64 0, .int .i64 0, .int .i64 0] 26)).alloc (Obj.cells #[.int .u8 ((A[i].toNat ^^^ by_ : Nat) : Int)] 5))) := (HB3.out.alloc HB3.out.size _).alloc (by have := HB3.out.size; omega) _
      clear s1 hq
      generalize ((w3.alloc (Obj.cells #[.int .u64 0, .int .u64 0, .int .i64 0, .int .i64 0, .int .i64 0, .int .i64 0, .bool false, .int .i64 0, .int .i64 0, .int .i64 0] 26)).alloc (Obj.cells #[.int .u8 ((A[i].toNat ^^^ by_ : Nat) : Int)] 5)) = w5 at *
      generalize w3.heap.size + 1 = q at *
      generalize w3.heap.size = g at *
      have hcg := hcv w5.drew q HQ.out
      clear hcv
      refine held_one 9 rfl (by kernel_rfl) ?_
      go_wp2
      try refine ⟨trivial, ?_⟩
      refine held_quiet 10 (v := ?v10q63) rfl (by kernel_rfl) (fun _ _ _ h => h) (by assumption) rfl ?hy10q63 ?rest10q63
      case hy10q63 => (intro wS hSw; (try dsimp only at hSw); go_simp; try with_reducible rfl)
      try simp only [Act.put, List.setIfInBounds_toArray, List.set_cons_zero, List.set_cons_succ]
      refine held_quiet 15 (v := ?v15q64) rfl (by kernel_rfl) (fun _ _ _ h => h) (by assumption) rfl ?hy15q64 ?rest15q64
      case hy15q64 => (intro wS hSw; (try dsimp only at hSw); go_simp; try with_reducible rfl)
      try simp only [Act.put, List.setIfInBounds_toArray, List.set_cons_zero, List.set_cons_succ]
      refine held_one 16 rfl (by kernel_rfl) ?_
      go_wp2_with fail
      refine (HD _).mono ?_
      rintro en w6 ⟨rfl, hb6⟩
      have hb6 : Below w5.heap.size w5 w6 := (Below.refl _ w5).drew.trans hb6
      have HB6 : Hid (Below w.heap.size w w6) := below2 HB5.out hb6
      have HZ6 : Hid _ := (hb6.block _ (Array.getElem?_eq_some_iff.1 HZ5.out).1).trans HZ5.out
      clear hb6 HB5 HZ5
      go_wp2
      try refine ⟨trivial, ?_⟩
      refine held_quiet 17 (v := ?v17q65) rfl (by kernel_rfl) (fun _ _ _ h => h) (by assumption) rfl ?hy17q65 ?rest17q65
      case hy17q65 => (intro wS hSw; (try dsimp only at hSw); go_simp; try with_reducible rfl)
      try simp only [Act.put, List.setIfInBounds_toArray, List.set_cons_zero, List.set_cons_succ]
      refine held_quiet 18 (v := ?v18q66) rfl (by kernel_rfl) (fun _ _ _ h => h) (by assumption) rfl ?hy18q66 ?rest18q66
      case hy18q66 => (intro wS hSw; (try dsimp only at hSw); go_simp; try with_reducible rfl)
      try simp only [Act.put, List.setIfInBounds_toArray, List.set_cons_zero, List.set_cons_succ]
      refine held_quiet 19 (v := ?v19q67) rfl (by kernel_rfl) (fun _ _ _ h => h) (by assumption) rfl ?hy19q67 ?rest19q67
      case hy19q67 => (intro wS hSw; (try dsimp only at hSw); go_simp; try with_reducible rfl)
      try simp only [Act.put, List.setIfInBounds_toArray, List.set_cons_zero, List.set_cons_succ]
      refine held_one 21 rfl (by kernel_rfl) ?_
      have hf6 := Go.Joins.unfrozen_of_block HZ6.out
      have hz6 := HZ6.out
      have z_0 := Go.Joins.cell_of_block hz6 0
      have z_1 := Go.Joins.cell_of_block hz6 1
      have z_2 := Go.Joins.cell_of_block hz6 2
      have z_3 := Go.Joins.cell_of_block hz6 3
      have z_4 := Go.Joins.cell_of_block hz6 4
      have z_5 := Go.Joins.cell_of_block hz6 5
      have z_6 := Go.Joins.cell_of_block hz6 6
      have z_7 := Go.Joins.cell_of_block hz6 7
      have z_8 := Go.Joins.cell_of_block hz6 8
      have z_9 := Go.Joins.cell_of_block hz6 9
      simp only [List.getElem?_toArray, List.getElem?_cons_zero, List.getElem?_cons_succ] at z_0 z_1 z_2 z_3 z_4 z_5 z_6 z_7 z_8 z_9
      clear hz6
      go_wp2
      try refine ⟨trivial, ?_⟩
      refine held_quiet 22 (v := ?v22q68) rfl (by kernel_rfl) (fun _ _ _ h => h) (by assumption) rfl ?hy22q68 ?rest22q68
      case hy22q68 => (intro wS hSw; (try dsimp only at hSw); go_simp; try with_reducible rfl)
      try simp only [Act.put, List.setIfInBounds_toArray, List.set_cons_zero, List.set_cons_succ]
      refine held_done (by kernel_rfl) ?_
      obtain ⟨r1, r2⟩ := set_sup HZ6.out (.int .u64 0) (.int .u64 0) (.int .i64 0) (.int .i64 0) (.int .i64 0) (.int .i64 0) (.bool false) (.int .i64 0) (.int .i64 0) (.int .i64 0)
      have R2 : Hid (Below w.heap.size w ((((((((((w6.setCell ⟨g, 0, none⟩ (.int .u64 0)).setCell ⟨g, 1, none⟩ (.int .u64 0)).setCell ⟨g, 2, none⟩ (.int .i64 0)).setCell ⟨g, 3, none⟩ (.int .i64 0)).setCell ⟨g, 4, none⟩ (.int .i64 0)).setCell ⟨g, 5, none⟩ (.int .i64 0)).setCell ⟨g, 6, none⟩ (.bool false)).setCell ⟨g, 7, none⟩ (.int .i64 0)).setCell ⟨g, 8, none⟩ (.int .i64 0)).setCell ⟨g, 9, none⟩ (.int .i64 0))) := HB6.out.trans (r2.mono HG.out)
      clear r2
      generalize ((((((((((w6.setCell ⟨g, 0, none⟩ (.int .u64 0)).setCell ⟨g, 1, none⟩ (.int .u64 0)).setCell ⟨g, 2, none⟩ (.int .i64 0)).setCell ⟨g, 3, none⟩ (.int .i64 0)).setCell ⟨g, 4, none⟩ (.int .i64 0)).setCell ⟨g, 5, none⟩ (.int .i64 0)).setCell ⟨g, 6, none⟩ (.bool false)).setCell ⟨g, 7, none⟩ (.int .i64 0)).setCell ⟨g, 8, none⟩ (.int .i64 0)).setCell ⟨g, 9, none⟩ (.int .i64 0)) = wz at *
      have y_0 := Go.Joins.cell_of_block r1 0
      have y_1 := Go.Joins.cell_of_block r1 1
      have y_2 := Go.Joins.cell_of_block r1 2
      have y_3 := Go.Joins.cell_of_block r1 3
      have y_4 := Go.Joins.cell_of_block r1 4
      have y_5 := Go.Joins.cell_of_block r1 5
      have y_6 := Go.Joins.cell_of_block r1 6
      have y_7 := Go.Joins.cell_of_block r1 7
      have y_8 := Go.Joins.cell_of_block r1 8
      have y_9 := Go.Joins.cell_of_block r1 9
      simp only [List.getElem?_toArray, List.getElem?_cons_zero, List.getElem?_cons_succ] at y_0 y_1 y_2 y_3 y_4 y_5 y_6 y_7 y_8 y_9
      clear r1 hf6 z_0 z_1 z_2 z_3 z_4 z_5 z_6 z_7 z_8 z_9
      go_wp2
      go_ret
      exact ⟨rfl, R2.out⟩
theorem walk (w : World) (u : Int) (wu : (Lit.int .u64 u).wf = true) (e : Int) (we : (Lit.int .u64 e).wf = true) (l : A8) (hl : l.Ok) (at_ : Int) (wa : (Lit.int .u8 at_).wf = true) (by_ : Int) (wb : (Lit.int .u8 by_).wf = true) :
    Calls Try.prog 5 #[.int .u64 u, .int .u64 e, arrV l, .int .u8 at_, .int .u8 by_] w fun en w' => en = .returned (.bool true) ∧ Below w.heap.size w w' := by
  obtain ⟨u, rfl, hu⟩ := u64_nat wu
  obtain ⟨e, rfl, he⟩ := u64_nat we
  obtain ⟨at_, rfl, ha⟩ := u8_nat wa
  obtain ⟨by_, rfl, hb⟩ := u8_nat wb
  exact walk_nat u e hu he l hl at_ by_ ha hb w

theorem own : ownKnob Try.prog.godebug = none := by kernel_rfl
theorem laidOut : laidOutB Try.prog = true := by kernel_rfl
set_option linter.unusedVariables false in
set_option maxRecDepth 100000 in
theorem lifted (os : Os) (started : os.Started) (H : Type) (enc : TypeId × Value → H) :
    ReturnsInHanded {} Try.checked os 5 .any (Rows.superSpoiltSpec.pre6 enc Try.prog Try.f5 Rows.superSpoiltRow.domain false) (Rows.superSpoiltSpec.post enc Try.prog Try.f5 false true false false) := by
  refine returnsInHanded_of_change (C := Try.checked) own started (by kernel_rfl) Try.func5
    (ChangeSpec.witness6 (enc := enc) (C := Try.checked) false ⟨#[], #[.int .u64 0, .int .u64 0, .agg #[.int .u8 0, .int .u8 0, .int .u8 0, .int .u8 0, .int .u8 0, .int .u8 0, .int .u8 0, .int .u8 0], .int .u8 0, .int .u8 0], []⟩ 8 (by kernel_rfl) (by kernel_rfl) (by kernel_rfl) (by kernel_rfl)) ?_
  intro W base args ds gs before hval0 hW hcnd _
  have hval : ∀ (j : Nat) t v, Try.f5.params[j]? = some t → args[j]? = some v → Value.okWide Try.prog W .any base t v := hval0
  have hW' := hW
  obtain ⟨p, q, hA0, hV, rfl, hfz, hnd⟩ := hW
  have hA : DataW.TrodAll enc Try.prog W 0 (fun _ => true) true Try.f5.params.toList args.toList ds p := hA0
  rw [Try.params5] at hA hval
  obtain ⟨v0, vs0, d0, ds0, p0, q0, hargs, rfl, rfl, h0, r0⟩ := trodAll_cons hA
  obtain ⟨v1, vs1, d1, ds1, p1, q1, rfl, rfl, rfl, h1, r1⟩ := trodAll_cons r0
  obtain ⟨v2, vs2, d2, ds2, p2, q2, rfl, rfl, rfl, h2, r2⟩ := trodAll_cons r1
  obtain ⟨v3, vs3, d3, ds3, p3, q3, rfl, rfl, rfl, h3, r3⟩ := trodAll_cons r2
  obtain ⟨v4, vs4, d4, ds4, p4, q4, rfl, rfl, rfl, h4, r4⟩ := trodAll_cons r3
  obtain ⟨rfl, rfl, rfl⟩ := trodAll_nil r4
  obtain rfl : args = #[v0, v1, v2, v3, v4] := by cases args; simp_all
  obtain ⟨rfl, rfl⟩ := trodVars_none hV
  obtain ⟨a0, rfl, rfl, rfl, w0⟩ := open_int Try.underlying22 (hval 0 22 v0 rfl rfl) h0
  obtain ⟨a1, rfl, rfl, rfl, w1⟩ := open_int Try.underlying22 (hval 1 22 v1 rfl rfl) h1
  obtain ⟨s2, rfl, w2⟩ := open_arr8 (hval 2 40 v2 rfl rfl) h2
  have k2 := h2
  have lt2 : ∀ x ∈ p2, x.block < W.heap.size := by obtain ⟨m, hm⟩ := k2; exact DataW.trod_lt m _ _ _ hm
  obtain ⟨a3, rfl, rfl, rfl, w3⟩ := open_int Try.underlying5 (hval 3 5 v3 rfl rfl) h3
  obtain ⟨a4, rfl, rfl, rfl, w4⟩ := open_int Try.underlying5 (hval 4 5 v4 rfl rfl) h4
  clear hA0 hval0
  simp only [List.append_nil] at hW'
  refine (walk W a0 w0 a1 w1 s2 w2 a3 w3 a4 w4).mono fun e W' ⟨he, hg⟩ => ?_
  subst he
  exact ⟨_, rfl, _, _, _, [], _, [], hW', trodAll_mk1 (shut_bool Try.underlying4 _), (trodAll_cons_mk (shut_int Try.underlying22 w0) (trodAll_cons_mk (shut_int Try.underlying22 w1) (trodAll_cons_mk (Below.trod laidOut (by kernel_rfl) (of_decide_eq_true (by kernel_rfl)) k2 hg lt2) (trodAll_cons_mk (shut_int Try.underlying5 w3) (trodAll_cons_mk (shut_int Try.underlying5 w4) trodAll_mk0))))), rfl, hg.frame _, fun h => by cases h⟩
/-- For every input the law returns true, and each argument reads as it did. -/
theorem proved : Rows.SuperSpoiltSaid :=
  OpenClaim.holds_of_wide 5 Try.f5 rfl rfl rfl rfl rfl rfl rfl ⟨rfl, rfl, rfl, rfl, rfl⟩ rfl rfl rfl rfl rfl (by kernel_rfl) Try.func5 (by kernel_rfl)
    (of_decide_eq_true (by kernel_rfl)) (by unfold Func.isWrapper; first | (rw [if_pos (by decide +kernel)]; kernel_rfl) | (rw [if_neg (by decide +kernel)]; exact ⟨rfl, rfl⟩))
    (fun os started H enc _ => lifted os started H enc)
end Go.Proofs.Ytinegeacpohlcaa.superSpoilt
