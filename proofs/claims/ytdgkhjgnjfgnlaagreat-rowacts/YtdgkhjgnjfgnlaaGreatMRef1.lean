/- Several texts in one. The walks of the document's own answers for gf: products, texts times a number, texts added. The walks of the document's own powers of a number, and of 2. -/
import Derived.Test.YtdgkhjgnjfgnlaaGreatMGfA
namespace Go.Proofs.YtdgkhjgnjfgnlaaGreat
open Go.RowKit

namespace Gfm
theorem dbl_ref_all : allB (fun x => if 256 ≤ x * 2 then (x * 2) ^^^ 285 == dbl x else x * 2 == dbl x) = true := by decide +kernel
theorem dbl_ref_hi {x : Nat} (hx : x < 256) (h : 256 ≤ x * 2) : (x * 2) ^^^ 285 = dbl x := by
  have := allB_of dbl_ref_all x hx
  rw [if_pos h] at this; simpa using this
theorem dbl_ref_lo {x : Nat} (hx : x < 256) (h : ¬ 256 ≤ x * 2) : x * 2 = dbl x := by
  have := allB_of dbl_ref_all x hx
  rw [if_neg h] at this; simpa using this
theorem andi_bit (L : Nat) (h : L < 256) : (bits BinOp.and IntKind.i64 (L : Int) 1 == 1) = decide (L % 2 = 1) := by
  rw [andi_one (L : Int) (by omega) (by omega), Bool.eq_iff_iff]; simp; omega
end Gfm

set_option maxRecDepth 10000 in
set_option maxRecDepth 100000 in
set_option maxHeartbeats 1000000 in
theorem refMul_any (a b : Nat) (ha : a < 256) (hb : b < 256) (w : World) :
    Calls Tryz.prog 91 #[.int .u8 a, .int .u8 b] w fun e w' => e = .returned (.int .u8 (Gfm.mul a b : Nat)) ∧ w' = w := by
  go_enter Tryz.func91, Tryz.ntmps91
  go_wp2
  go_loop [5, 6, 7] (fun n x i => ∃ N X I : Nat, N < 256 ∧ X < 256 ∧ I ≤ 8 ∧ N ^^^ Gfm.mulN (8 - I) X (b / 2 ^ I) = Gfm.mul a b ∧ n = .int .i64 N ∧ x = .int .i64 X ∧ i = .int .i64 I) (fun _ _ i => 8 - (intOf i).toNat)
  case atStart => exact ⟨0, a, 0, by omega, ha, by omega, by simp [Gfm.mul], rfl, by go_num, rfl⟩
  case round =>
    obtain ⟨N, X, I, hN, hX, hI, he, rfl, rfl, rfl⟩ := hrel
    have He : Hid (N ^^^ Gfm.mulN (8 - I) X (b / 2 ^ I) = Gfm.mul a b) := he
    clear he
    by_cases h8 : I < 8
    · have e8 : 8 - I = (8 - (I + 1)) + 1 := by omega
      have hq : b / 2 ^ I / 2 = b / 2 ^ (I + 1) := by rw [Nat.div_div_eq_div_mul, Nat.pow_succ]
      have hle : b / 2 ^ I ≤ b := Nat.div_le_self _ _
      have hc : ((b / 2 ^ I : Nat) : Int) = (b : Int) / 2 ^ I := by simp
      have hm := Gfm.andi_bit (b / 2 ^ I) (by omega)
      rw [hc] at hm
      have x1 := i64_xor_nat N X (by omega) (by omega)
      have x2 := i64_xor_nat (X * 2) 285 (by omega) (by omega)
      rw [show ((X * 2 : Nat) : Int) = (X : Int) * 2 from by omega, show ((285 : Nat) : Int) = 285 from rfl] at x2
      have hx := Gfm.xlt hN hX
      have hd := Gfm.dbl_lt hX
      have hs := He.out
      rw [e8, Gfm.mulN, hq] at hs
      have Hs : Hid (N ^^^ ((if b / 2 ^ I % 2 = 1 then X else 0) ^^^ Gfm.mulN (8 - (I + 1)) (Gfm.dbl X) (b / 2 ^ (I + 1))) = Gfm.mul a b) := hs
      clear hs He hq e8
      by_cases h1 : b / 2 ^ I % 2 = 1
      · have hs := Hs.out
        rw [if_pos h1, ← Nat.xor_assoc] at hs
        have Hs : Hid (N ^^^ X ^^^ Gfm.mulN (8 - (I + 1)) (Gfm.dbl X) (b / 2 ^ (I + 1)) = Gfm.mul a b) := hs
        clear hs
        have ht : (bits BinOp.and IntKind.i64 ((b : Int) / 2 ^ I) 1 == 1) = true := by rw [hm]; exact decide_eq_true h1
        clear hm hc h1
        by_cases h2 : 256 ≤ X * 2
        · have e := Gfm.dbl_ref_hi hX h2
          rw [e] at x2
          clear e
          go_wp2
          go_round
          case rel => exact ⟨N ^^^ X, Gfm.dbl X, I + 1, hx, hd, by omega, Hs.out, rfl, rfl, by go_num⟩
          case measure => simp [intOf]; omega
        · have e := Gfm.dbl_ref_lo hX h2
          have E : Hid (X * 2 = Gfm.dbl X) := e
          clear e x2
          go_wp2
          go_round
          case rel => exact ⟨N ^^^ X, Gfm.dbl X, I + 1, hx, hd, by omega, Hs.out, rfl, by rw [← E.out]; go_num, by go_num⟩
          case measure => simp [intOf]; omega
      · have hs := Hs.out
        rw [if_neg h1, Nat.zero_xor] at hs
        have Hs : Hid (N ^^^ Gfm.mulN (8 - (I + 1)) (Gfm.dbl X) (b / 2 ^ (I + 1)) = Gfm.mul a b) := hs
        clear hs
        have ht : (bits BinOp.and IntKind.i64 ((b : Int) / 2 ^ I) 1 == 1) = false := by rw [hm]; exact decide_eq_false h1
        clear hm hc h1 x1
        by_cases h2 : 256 ≤ X * 2
        · have e := Gfm.dbl_ref_hi hX h2
          rw [e] at x2
          clear e
          go_wp2
          go_round
          case rel => exact ⟨N, Gfm.dbl X, I + 1, hN, hd, by omega, Hs.out, rfl, rfl, by go_num⟩
          case measure => simp [intOf]; omega
        · have e := Gfm.dbl_ref_lo hX h2
          have E : Hid (X * 2 = Gfm.dbl X) := e
          clear e x2
          go_wp2
          go_round
          case rel => exact ⟨N, Gfm.dbl X, I + 1, hN, hd, by omega, Hs.out, rfl, by rw [← E.out]; go_num, by go_num⟩
          case measure => simp [intOf]; omega
    · have h8' : I = 8 := by omega
      subst h8'
      have he : N = Gfm.mul a b := by have := He.out; simpa [Gfm.mulN] using this
      have Hf : Hid (N = Gfm.mul a b) := he
      clear he
      go_wp2
      go_ret
      exact ⟨ret_int (by rw [← Hf.out]), rfl⟩

theorem refMul_u8 (x : UInt8) (b : Nat) (hb : b < 256) (w : World) :
    Calls Tryz.prog 91 #[.int .u8 (x.toNat : Int), .int .u8 b] w fun e w' => e = .returned (.int .u8 (((Gfm.mulU x b).toNat : Nat) : Int)) ∧ w' = w := by
  rw [Gfm.mulU_toNat]; exact refMul_any _ b x.toNat_lt hb w

theorem timesL_snoc (a : List UInt8) (n k : Nat) (hk : k < a.length) : Gfm.timesL (a.take k) n ++ [Gfm.mulU (a.getD k 0) n] = Gfm.timesL (a.take (k + 1)) n := by
  rw [List.take_succ_eq_append_getElem hk]; unfold Gfm.timesL; rw [List.map_append]; simp [List.getElem?_eq_getElem hk]

set_option maxRecDepth 100000 in
set_option maxHeartbeats 1000000 in
theorem refTimes_any (s : ByteArray) (b : Nat) (hs : s.size ≤ 1048576) (hb : b < 256) (w : World) :
    Calls Tryz.prog 63 #[.string s, .int .u8 b] w fun e w' => e = .returned (.string (Gfm.timesB s b)) ∧ Below w.heap.size w w' := by
  have Hsl : Hid (s.data.toList.length = s.size) := by show _ = _; simp
  obtain ⟨i0, hi, hz0, hz1, hz2⟩ := info_parts info_u8
  go_enter Tryz.func63, Tryz.ntmps63
  go_wp2
  go_loopw [5, 6] (fun v i wr => ∃ k : Nat, k ≤ s.size ∧ i = .int .i64 k ∧ wr.ownsRow w.heap.size 5 1 v k (byteVals (Gfm.timesL (s.data.toList.take k) b)) ∧ Below w.heap.size w wr) (fun _ i _ => s.size - (intOf i).toNat)
  case atStart => exact ⟨0, by omega, rfl, World.ownsRow_made _ _ _ (Nat.le_refl _) (by decide) rfl, (Below.refl _ _).alloc (Nat.le_refl _) _⟩
  case round =>
    obtain ⟨k, hk, rfl, hown, hb'⟩ := hrel
    by_cases hkt : k < s.size
    · go_wp2_with fail
      refine (refMul_u8 _ b hb _).mono ?_
      rintro e w' ⟨rfl, rfl⟩
      go_wp2_with (at_builtin; refine wpList_append_own _ rfl _ _ 109 rfl w.heap.size 5 i0 (.int .u8 0) 1 1 Tryz.underlying109 hi hz0 hz1 hz2 rfl (by decide) _ _ _ rfl (hown.alloc _) ⟨w'.heap.size, 0, none⟩ 1 1 [.int .u8 ((Gfm.mulU s[k] b).toNat : Int)] rfl rfl ?c1 ?c2 ?c3 ?c4 ?c5 ?_)
      case c1 => exact cell_one_new _ _ _
      case c2 => intro u hu; simp at hu; subst hu; rfl
      case c3 => unfold maxLen; omega
      case c4 => omega
      case c5 => have := hb'.size; simp; omega
      intro v' w1 hown' hgrow _
      have hz : s.data.toList.getD k 0 = s[k] := by
        have hk' : k < s.data.toList.length := by rw [Hsl.out]; exact hkt
        rw [List.getD_eq_getElem?_getD, List.getElem?_eq_getElem hk']; rfl
      rw [byteVals_snoc, ← hz, timesL_snoc _ _ _ (by rw [Hsl.out]; exact hkt)] at hown'
      have hB : Below w.heap.size w w1 := (hb'.alloc hb'.size _).grown hgrow (by have := hb'.size; simp; omega) (fun j hj => (hown.lt j hj).1)
      have Ho : Hid (w1.ownsRow w.heap.size 5 1 v' (k + 1) (byteVals (Gfm.timesL (s.data.toList.take (k + 1)) b))) := hown'
      have HB : Hid (Below w.heap.size w w1) := hB
      clear hown' hgrow hown hb' hz hB
      go_wp2
      go_roundw
      case rel => exact ⟨k + 1, by omega, by go_num, Ho.out, HB.out⟩
      case measure => simp [intOf]; omega
    · have hkk : k = s.size := by omega
      rw [hkk, List.take_of_length_le (by rw [Hsl.out]; exact Nat.le_refl _)] at hown
      have hback := ownsBytes_back (P := Tryz.prog) hown 109 9 5 Tryz.underlying109 Tryz.underlying5 Tryz.underlying9
      have Hb : Hid (Below w.heap.size w wr) := hb'
      clear hown hb' hkk
      go_wp2
      go_ret
      exact ⟨rfl, Hb.out⟩

theorem byte_at {s : ByteArray} {k : Nat} (hk : k < s.size) : s.data.toList.getD k 0 = s[k] := by
  have hk' : k < s.data.toList.length := by simpa using hk
  rw [List.getD_eq_getElem?_getD, List.getElem?_eq_getElem hk']; rfl
theorem byte_past {s : ByteArray} {k : Nat} (hk : ¬ k < s.size) : s.data.toList.getD k 0 = 0 := by
  rw [List.getD_eq_getElem?_getD, List.getElem?_eq_none (by have : s.data.toList.length = s.size := by simp
                                                            omega)]; rfl
theorem xorL_snoc (a b : List UInt8) (k : Nat) (hk : k < max a.length b.length) :
    (Gfm.xorL a b).take k ++ [a.getD k 0 ^^^ b.getD k 0] = (Gfm.xorL a b).take (k + 1) := by
  have hk' : k < (Gfm.xorL a b).length := by rw [Gfm.xorL_length]; exact hk
  rw [List.take_succ_eq_append_getElem hk', ← Gfm.xorL_getD, List.getD_eq_getElem?_getD, List.getElem?_eq_getElem hk']; rfl

set_option maxRecDepth 100000 in
set_option maxHeartbeats 2000000 in
theorem refXor_any (s t : ByteArray) (hs : s.size ≤ 1048576) (ht : t.size ≤ 1048576) (w : World) :
    Calls Tryz.prog 62 #[.string s, .string t] w fun e w' => e = .returned (.string (Gfm.xorB s t)) ∧ Below w.heap.size w w' := by
  have Hsl : Hid (s.data.toList.length = s.size) := by show _ = _; simp
  have Htl : Hid (t.data.toList.length = t.size) := by show _ = _; simp
  obtain ⟨M, hM⟩ : ∃ M, M = max s.size t.size := ⟨_, rfl⟩
  have hm1 : s.size ≤ M := by omega
  have hm2 : t.size ≤ M := by omega
  have hmx : (if s.size < t.size then (t.size : Int) else (s.size : Int)) = (M : Int) := by split <;> omega
  have HM : Hid (M = max s.size t.size) := hM
  clear hM
  obtain ⟨i0, hi, hz0, hz1, hz2⟩ := info_parts info_u8
  go_enter Tryz.func62, Tryz.ntmps62
  go_wp2
  go_loopw [5, 6] (fun v i wr => ∃ k : Nat, k ≤ M ∧ i = .int .i64 k ∧ wr.ownsRow w.heap.size 5 1 v k (byteVals ((Gfm.xorL s.data.toList t.data.toList).take k)) ∧ Below w.heap.size w wr) (fun _ i _ => M - (intOf i).toNat)
  case atStart => exact ⟨0, by omega, rfl, World.ownsRow_made _ _ _ (Nat.le_refl _) (by decide) rfl, (Below.refl _ _).alloc (Nat.le_refl _) _⟩
  case round =>
    obtain ⟨k, hk, rfl, hown, hb'⟩ := hrel
    by_cases h1 : k < s.size <;> by_cases h2 : k < t.size
    · have hx := u8_xor_nat s[k].toNat t[k].toNat s[k].toNat_lt t[k].toNat_lt
      have ha := byte_at h1
      have hbb := byte_at h2
      have Ha : Hid (s.data.toList.getD k 0 = s[k]) := ha
      have Hb2 : Hid (t.data.toList.getD k 0 = t[k]) := hbb
      clear ha hbb
      go_wp2_with (at_builtin; refine wpList_append_own _ rfl _ _ 109 rfl w.heap.size 5 i0 (.int .u8 0) 1 1 Tryz.underlying109 hi hz0 hz1 hz2 rfl (by decide) _ _ _ rfl (hown.alloc _) ⟨wr.heap.size, 0, none⟩ 1 1 [.int .u8 ((s[k].toNat ^^^ t[k].toNat : Nat) : Int)] rfl rfl ?c1 ?c2 ?c3 ?c4 ?c5 ?_)
      case c1 => exact cell_one_new _ _ _
      case c2 => intro u hu; simp at hu; subst hu; rfl
      case c3 => unfold maxLen; omega
      case c4 => omega
      case c5 => have := hb'.size; simp; omega
      intro v' w1 hown' hgrow _
      rw [← UInt8.toNat_xor, byteVals_snoc, ← Ha.out, ← Hb2.out, xorL_snoc _ _ _ (by rw [Hsl.out, Htl.out, ← HM.out]; omega)] at hown'
      have hB : Below w.heap.size w w1 := (hb'.alloc hb'.size _).grown hgrow (by have := hb'.size; simp; omega) (fun j hj => (hown.lt j hj).1)
      have Ho : Hid (w1.ownsRow w.heap.size 5 1 v' (k + 1) (byteVals ((Gfm.xorL s.data.toList t.data.toList).take (k + 1)))) := hown'
      have HB : Hid (Below w.heap.size w w1) := hB
      clear hown' hgrow hown hb' hB
      go_wp2
      go_roundw
      case rel => exact ⟨k + 1, by omega, by go_num, Ho.out, HB.out⟩
      case measure => simp [intOf]; omega
    · have Ha : Hid (s.data.toList.getD k 0 = s[k]) := byte_at h1
      have Hb2 : Hid (t.data.toList.getD k 0 = 0) := byte_past h2
      go_wp2_with (at_builtin; refine wpList_append_own _ rfl _ _ 109 rfl w.heap.size 5 i0 (.int .u8 0) 1 1 Tryz.underlying109 hi hz0 hz1 hz2 rfl (by decide) _ _ _ rfl (hown.alloc _) ⟨wr.heap.size, 0, none⟩ 1 1 [.int .u8 ((s[k] : UInt8).toNat : Int)] rfl rfl ?c1 ?c2 ?c3 ?c4 ?c5 ?_)
      case c1 => exact cell_one_new _ _ _
      case c2 => intro u hu; simp at hu; subst hu; rfl
      case c3 => unfold maxLen; omega
      case c4 => omega
      case c5 => have := hb'.size; simp; omega
      intro v' w1 hown' hgrow _
      rw [byteVals_snoc, show s[k] = s.data.toList.getD k 0 ^^^ t.data.toList.getD k 0 from by rw [Ha.out, Hb2.out, UInt8.xor_zero], xorL_snoc _ _ _ (by rw [Hsl.out, Htl.out, ← HM.out]; omega)] at hown'
      have hB : Below w.heap.size w w1 := (hb'.alloc hb'.size _).grown hgrow (by have := hb'.size; simp; omega) (fun j hj => (hown.lt j hj).1)
      have Ho : Hid (w1.ownsRow w.heap.size 5 1 v' (k + 1) (byteVals ((Gfm.xorL s.data.toList t.data.toList).take (k + 1)))) := hown'
      have HB : Hid (Below w.heap.size w w1) := hB
      clear hown' hgrow hown hb' hB
      go_wp2
      go_roundw
      case rel => exact ⟨k + 1, by omega, by go_num, Ho.out, HB.out⟩
      case measure => simp [intOf]; omega
    · have Ha : Hid (s.data.toList.getD k 0 = 0) := byte_past h1
      have Hb2 : Hid (t.data.toList.getD k 0 = t[k]) := byte_at h2
      have hx := u8_xor_nat 0 t[k].toNat (by omega) t[k].toNat_lt
      rw [Nat.zero_xor, show ((0 : Nat) : Int) = 0 from rfl] at hx
      go_wp2_with (at_builtin; refine wpList_append_own _ rfl _ _ 109 rfl w.heap.size 5 i0 (.int .u8 0) 1 1 Tryz.underlying109 hi hz0 hz1 hz2 rfl (by decide) _ _ _ rfl (hown.alloc _) ⟨wr.heap.size, 0, none⟩ 1 1 [.int .u8 ((t[k] : UInt8).toNat : Int)] rfl rfl ?c1 ?c2 ?c3 ?c4 ?c5 ?_)
      case c1 => exact cell_one_new _ _ _
      case c2 => intro u hu; simp at hu; subst hu; rfl
      case c3 => unfold maxLen; omega
      case c4 => omega
      case c5 => have := hb'.size; simp; omega
      intro v' w1 hown' hgrow _
      rw [byteVals_snoc, show t[k] = s.data.toList.getD k 0 ^^^ t.data.toList.getD k 0 from by rw [Ha.out, Hb2.out, UInt8.zero_xor], xorL_snoc _ _ _ (by rw [Hsl.out, Htl.out, ← HM.out]; omega)] at hown'
      have hB : Below w.heap.size w w1 := (hb'.alloc hb'.size _).grown hgrow (by have := hb'.size; simp; omega) (fun j hj => (hown.lt j hj).1)
      have Ho : Hid (w1.ownsRow w.heap.size 5 1 v' (k + 1) (byteVals ((Gfm.xorL s.data.toList t.data.toList).take (k + 1)))) := hown'
      have HB : Hid (Below w.heap.size w w1) := hB
      clear hown' hgrow hown hb' hB
      go_wp2
      go_roundw
      case rel => exact ⟨k + 1, by omega, by go_num, Ho.out, HB.out⟩
      case measure => simp [intOf]; omega
    · have hkk : k = M := by have := HM.out; omega
      rw [hkk, List.take_of_length_le (by rw [Gfm.xorL_length, Hsl.out, Htl.out, HM.out]; exact Nat.le_refl _)] at hown
      have hback := ownsBytes_back (P := Tryz.prog) hown 109 9 5 Tryz.underlying109 Tryz.underlying5 Tryz.underlying9
      have Hb : Hid (Below w.heap.size w wr) := hb'
      clear hown hb' hkk
      go_wp2
      go_ret
      exact ⟨rfl, Hb.out⟩
end Go.Proofs.YtdgkhjgnjfgnlaaGreat

namespace Go.Proofs.YtdgkhjgnjfgnlaaGreat
open Go.RowKit

namespace Gfm
theorem tmod_neg {n : Int} (h : n.tmod 255 < 0) : n.tmod 255 + 255 = n % 255 := by
  have e := tmod_eq_if n 255
  rw [e] at h ⊢
  split at h <;> split <;> omega
theorem tmod_pos {n : Int} (h : ¬ n.tmod 255 < 0) : n.tmod 255 = n % 255 := by
  have e := tmod_eq_if n 255
  rw [e] at h ⊢
  split at h <;> split <;> omega
theorem tmod_low (n : Int) : -255 < n.tmod 255 := by
  have e := tmod_eq_if n 255
  rw [e]; split <;> omega
end Gfm

set_option maxRecDepth 100000 in
set_option maxHeartbeats 1000000 in
theorem refPow_some (a : Nat) (ha : a < 256) (hz : a ≠ 0) (n : Int) (hn : n ≠ 0) (w : World) :
    Calls Tryz.prog 92 #[.int .u8 a, .int .i64 n] w fun e w' => e = .returned (.int .u8 (Gfm.powI a n : Nat)) ∧ w' = w := by
  have hn' : (n == 0) = false := by simpa using hn
  have hz' : ((a : Int) == 0) = false := by simp; omega
  obtain ⟨k, hk⟩ : ∃ k : Nat, n % 255 = k := ⟨(n % 255).toNat, by omega⟩
  have hk2 : k < 255 := by omega
  have He : Hid (Gfm.powI a n = Gfm.pw a k) := by show _ = _; rw [Gfm.powI_else hn hz, hk]; rfl
  have hlow := Gfm.tmod_low n
  obtain ⟨T, hT⟩ : ∃ T, n.tmod 255 = T := ⟨_, rfl⟩
  by_cases ht : n.tmod 255 < 0
  · have hkk := (Gfm.tmod_neg ht).trans hk
    rw [hT] at ht hkk hlow
    clear hk hn hz
    go_enter Tryz.func92, Tryz.ntmps92
    go_wp2
    go_loop [6, 7] (fun x i => ∃ j : Nat, j ≤ k ∧ i = .int .i64 j ∧ x = .int .u8 (Gfm.pw a j : Nat)) (fun _ i => k - (intOf i).toNat)
    case atStart => exact ⟨0, by omega, rfl, rfl⟩
    case round =>
      obtain ⟨j, hj, rfl, rfl⟩ := hrel
      have hp := Gfm.pw_lt (a := a) j
      by_cases hjk : j < k
      · have Hs : Hid (Gfm.pw a (j + 1) = Gfm.mul (Gfm.pw a j) a) := rfl
        obtain ⟨x, hx⟩ : ∃ x, Gfm.pw a j = x := ⟨_, rfl⟩
        rw [hx] at hp Hs
        rw [hx]
        clear hx
        go_wp2_with fail
        refine (refMul_any x a hp ha _).mono ?_
        rintro e w' ⟨rfl, rfl⟩
        go_wp2
        go_round
        case rel => exact ⟨j + 1, by omega, by go_num, by rw [Hs.out]⟩
        case measure => simp [intOf]; omega
      · have hjj : j = k := by omega
        have E : Hid (Gfm.powI a n = Gfm.pw a j) := by show _ = _; rw [He.out, hjj]
        clear hjj
        go_wp2
        go_ret
        exact ⟨ret_int (by rw [E.out]), rfl⟩
  · have hkk := (Gfm.tmod_pos ht).trans hk
    rw [hT] at ht hkk hlow
    clear hk hn hz
    go_enter Tryz.func92, Tryz.ntmps92
    go_wp2
    go_loop [6, 7] (fun x i => ∃ j : Nat, j ≤ k ∧ i = .int .i64 j ∧ x = .int .u8 (Gfm.pw a j : Nat)) (fun _ i => k - (intOf i).toNat)
    case atStart => exact ⟨0, by omega, rfl, rfl⟩
    case round =>
      obtain ⟨j, hj, rfl, rfl⟩ := hrel
      have hp := Gfm.pw_lt (a := a) j
      by_cases hjk : j < k
      · have Hs : Hid (Gfm.pw a (j + 1) = Gfm.mul (Gfm.pw a j) a) := rfl
        obtain ⟨x, hx⟩ : ∃ x, Gfm.pw a j = x := ⟨_, rfl⟩
        rw [hx] at hp Hs
        rw [hx]
        clear hx
        go_wp2_with fail
        refine (refMul_any x a hp ha _).mono ?_
        rintro e w' ⟨rfl, rfl⟩
        go_wp2
        go_round
        case rel => exact ⟨j + 1, by omega, by go_num, by rw [Hs.out]⟩
        case measure => simp [intOf]; omega
      · have hjj : j = k := by omega
        have E : Hid (Gfm.powI a n = Gfm.pw a j) := by show _ = _; rw [He.out, hjj]
        clear hjj
        go_wp2
        go_ret
        exact ⟨ret_int (by rw [E.out]), rfl⟩

set_option maxRecDepth 100000 in
set_option maxHeartbeats 400000 in
theorem refPow_zero (a : Nat) (w : World) :
    Calls Tryz.prog 92 #[.int .u8 a, .int .i64 0] w fun e w' => e = .returned (.int .u8 (Gfm.powI a 0 : Nat)) ∧ w' = w := by
  have e := Gfm.powI_zero a
  go_enter Tryz.func92, Tryz.ntmps92
  go_wp2
  go_ret
  exact ⟨rfl, rfl⟩

set_option maxRecDepth 100000 in
set_option maxHeartbeats 400000 in
theorem refExp_any (n : Int) (w : World) :
    Calls Tryz.prog 64 #[.int .i64 n] w fun e w' => e = .returned (.int .u8 (Gfm.powI 2 n : Nat)) ∧ w' = w := by
  have h : Calls Tryz.prog 92 #[.int .u8 2, .int .i64 n] w fun e w' => e = .returned (.int .u8 (Gfm.powI 2 n : Nat)) ∧ w' = w := by
    by_cases hn : n = 0
    · subst hn; exact refPow_zero 2 w
    · exact refPow_some 2 (by decide) (by decide) n hn w
  go_enter Tryz.func64, Tryz.ntmps64
  go_wp2_with fail
  refine h.mono ?_
  rintro e w' ⟨rfl, rfl⟩
  go_wp2
  go_ret
  exact ⟨rfl, rfl⟩
end Go.Proofs.YtdgkhjgnjfgnlaaGreat
