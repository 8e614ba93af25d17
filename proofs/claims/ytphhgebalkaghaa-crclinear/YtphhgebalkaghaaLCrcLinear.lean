/- For every three texts the law CrcLinear returns true: of three texts of one length (up to 2048 bytes; longer ones are cut by the law itself) the sum of all, added, is that of their sums, added. No condition. -/
import Derived.Test.YtphhgebalkaghaaCrcWalk
import Derived.Test.YtphhgebalkaghaaRef01
import Derived.ProofKit
import Derived.OpenShut
import Derived.ShutString
namespace Go.Proofs.Ytphhgebalkaghaa.crcLinear
open Go.ChangeShapes Go.WideShapes Go.ChangeAt Go.RowKit
open Go.ChangeMaps (open_string shut_string)

theorem run_xor (x y : Nat) (a b : List UInt8) (h : a.length = b.length) : Crc.run (x ^^^ y) (Gfm.xorL a b) = Crc.run x a ^^^ Crc.run y b := by
  induction a generalizing x y b with
  | nil =>
    have hb : b = [] := List.length_eq_zero_iff.1 h.symm
    subst hb; rfl
  | cons c a ih =>
    cases b with
    | nil => simp at h
    | cons d b =>
      rw [Gfm.xorL_cons, Crc.run_cons, Crc.run_cons, Crc.run_cons, UInt8.toNat_xor, Crc.xcomm4, Crc.shN_xor]
      exact ih _ _ b (by simpa using h)
theorem more_xor (a b c : List UInt8) (h : a.length = b.length) (h' : b.length = c.length) :
    Crc.more 0 (Gfm.xorL (Gfm.xorL a b) c) = (Crc.more 0 a ^^^ Crc.more 0 b) ^^^ Crc.more 0 c := by
  have hl : (Gfm.xorL a b).length = c.length := by rw [Gfm.xorL_length, h, h']; omega
  have hF : Crc.neg 0 = (Crc.neg 0 ^^^ Crc.neg 0) ^^^ Crc.neg 0 := by rw [Nat.xor_self, Nat.zero_xor]
  have hr : Crc.run (Crc.neg 0) (Gfm.xorL (Gfm.xorL a b) c) = (Crc.run (Crc.neg 0) a ^^^ Crc.run (Crc.neg 0) b) ^^^ Crc.run (Crc.neg 0) c := by
    conv => lhs; rw [hF]
    rw [run_xor _ _ _ _ hl, run_xor _ _ _ _ h]
  have la := Crc.run_lt (Crc.neg_lt 0) a
  have lb := Crc.run_lt (Crc.neg_lt 0) b
  have lc := Crc.run_lt (Crc.neg_lt 0) c
  unfold Crc.more
  rw [hr]
  generalize Crc.run (Crc.neg 0) a = A at *
  generalize Crc.run (Crc.neg 0) b = B at *
  generalize Crc.run (Crc.neg 0) c = C at *
  rw [← Crc.not_xor _ (Crc.xor_lt (Crc.xor_lt la lb) lc), ← Crc.not_xor _ la, ← Crc.not_xor _ lb, ← Crc.not_xor _ lc]
  generalize 4294967295 = F
  have e1 : (F ^^^ A) ^^^ (F ^^^ B) = A ^^^ B := by rw [Crc.xcomm4, Nat.xor_self, Nat.zero_xor]
  rw [e1]
  ac_rfl

set_option maxHeartbeats 1000000 in
theorem walk_nat (s t u : ByteArray) (hs : s.size ≤ maxLen) (ht : t.size ≤ maxLen) (hu : u.size ≤ maxLen) (w : World) :
    Calls Try.prog 12 #[.string s, .string t, .string u] w fun e w' => e = .returned (.bool true) ∧ Below w.heap.size w w' := by
  unfold maxLen at hs ht hu
  obtain ⟨n, hn⟩ : ∃ n : Nat, n = min (min (min s.size t.size) u.size) 2048 := ⟨_, rfl⟩
  have n1 : n ≤ s.size := by omega
  have n2 : n ≤ t.size := by omega
  have n3 : n ≤ u.size := by omega
  have n4 : n ≤ 2048 := by omega
  have hmin : ∀ (ts : Array TypeId) (ty : TypeId) (W : World), (Builtin.min_ ts ty #[.int .i64 (s.size : Int), .int .i64 (t.size : Int), .int .i64 (u.size : Int), .int .i64 2048]).run Try.prog W = .ok (.int .i64 (n : Int)) W := by
    intro ts ty W
    simp [Builtin.min_, Builtin.min2]
    repeat' split
    all_goals omega
  clear hn
  go_enter Try.func12, Try.ntmps12
  go_wp2_with fail
  have za : (s.extract 0 n).size = n := by simp; omega
  have zb : (t.extract 0 n).size = n := by simp; omega
  have zc : (u.extract 0 n).size = n := by simp; omega
  generalize s.extract 0 n = a at *
  generalize t.extract 0 n = b at *
  generalize u.extract 0 n = c at *
  have zab : (Gfm.xorB a b).size = n := by rw [Gfm.xorB_size, za, zb]; omega
  have zabc : (Gfm.xorB (Gfm.xorB a b) c).size = n := by rw [Gfm.xorB_size, zab, zc]; omega
  have hm : Crc.more 0 (Gfm.xorB (Gfm.xorB a b) c).data.toList = (Crc.more 0 a.data.toList ^^^ Crc.more 0 b.data.toList) ^^^ Crc.more 0 c.data.toList :=
    more_xor _ _ _ (by simp [za, zb]) (by simp [zb, zc])
  have la := Crc.more_lt 0 a.data.toList
  have lb := Crc.more_lt 0 b.data.toList
  have lc := Crc.more_lt 0 c.data.toList
  have x1 := u32_xor_nat _ _ la lb
  have x2 := u32_xor_nat _ _ (Crc.xor_lt la lb) lc
  have Hm : Hid (Crc.more 0 (Gfm.xorB (Gfm.xorB a b) c).data.toList = (Crc.more 0 a.data.toList ^^^ Crc.more 0 b.data.toList) ^^^ Crc.more 0 c.data.toList) := hm
  have Za : Hid (a.size = n) := za
  have Zb : Hid (b.size = n) := zb
  have Zc : Hid (c.size = n) := zc
  have Zab : Hid ((Gfm.xorB a b).size = n) := zab
  have Zabc : Hid ((Gfm.xorB (Gfm.xorB a b) c).size = n) := zabc
  clear hm za zb zc zab zabc
  refine (refXor_any a b (by rw [Za.out]; omega) (by rw [Zb.out]; omega) _).mono ?_
  rintro e w1 ⟨rfl, hb1⟩
  go_wp2_with fail
  refine (refXor_any _ c (by rw [Zab.out]; omega) (by rw [Zc.out]; omega) _).mono ?_
  rintro e w2 ⟨rfl, hb2⟩
  go_wp2_with fail
  refine (Sum_any _ (by unfold maxLen; rw [Zabc.out]; omega) _).mono ?_
  rintro e w3 ⟨rfl, hb3⟩
  rw [Hm.out]
  go_wp2_with fail
  refine (Sum_any a (by unfold maxLen; rw [Za.out]; omega) _).mono ?_
  rintro e w4 ⟨rfl, hb4⟩
  go_wp2_with fail
  refine (Sum_any b (by unfold maxLen; rw [Zb.out]; omega) _).mono ?_
  rintro e w5 ⟨rfl, hb5⟩
  go_wp2_with fail
  refine (Sum_any c (by unfold maxLen; rw [Zc.out]; omega) _).mono ?_
  rintro e w6 ⟨rfl, hb6⟩
  go_wp2_with fail
  refine (shown2_any _).mono ?_
  rintro e w7 ⟨rfl, hb7⟩
  go_wp2
  go_ret
  exact ⟨rfl, below4 (below4 hb1 hb2 hb3 hb4) hb5 hb6 hb7⟩
theorem walk (a0 : ByteArray) (w0 : a0.size ≤ maxLen) (a1 : ByteArray) (w1 : a1.size ≤ maxLen) (a2 : ByteArray) (w2 : a2.size ≤ maxLen) (w : World) :
    Calls Try.prog 12 #[.string a0, .string a1, .string a2] w fun e w' => e = .returned (.bool true) ∧ Below w.heap.size w w' :=
  walk_nat a0 a1 a2 w0 w1 w2 w

theorem own : ownKnob Try.prog.godebug = none := by kernel_rfl
set_option linter.unusedVariables false in
set_option maxRecDepth 100000 in
theorem lifted (os : Os) (started : os.Started) (H : Type) (enc : TypeId × Value → H) :
    ReturnsInHanded {} Try.checked os 12 .any (Rows.crcLinearSpec.pre6 enc Try.prog Try.f12 Rows.crcLinearRow.domain false) (Rows.crcLinearSpec.post enc Try.prog Try.f12 false true false false) := by
  refine returnsInHanded_of_change (C := Try.checked) own started (by kernel_rfl) Try.func12
    (ChangeSpec.witness6 (enc := enc) (C := Try.checked) false ⟨#[], #[.string ByteArray.empty, .string ByteArray.empty, .string ByteArray.empty], []⟩ 8 (by kernel_rfl) (by kernel_rfl) (by kernel_rfl) (by kernel_rfl)) ?_
  intro W base args ds gs before hval0 hW hcnd _
  have hval : ∀ (j : Nat) t v, Try.f12.params[j]? = some t → args[j]? = some v → Value.okWide Try.prog W .any base t v := hval0
  have hW' := hW
  obtain ⟨p, q, hA0, hV, rfl, hfz, hnd⟩ := hW
  have hA : DataW.TrodAll enc Try.prog W 0 (fun _ => true) true Try.f12.params.toList args.toList ds p := hA0
  rw [Try.params12] at hA hval
  obtain ⟨v0, vs0, d0, ds0, p0, q0, hargs, rfl, rfl, h0, r0⟩ := trodAll_cons hA
  obtain ⟨v1, vs1, d1, ds1, p1, q1, rfl, rfl, rfl, h1, r1⟩ := trodAll_cons r0
  obtain ⟨v2, vs2, d2, ds2, p2, q2, rfl, rfl, rfl, h2, r2⟩ := trodAll_cons r1
  obtain ⟨rfl, rfl, rfl⟩ := trodAll_nil r2
  obtain rfl : args = #[v0, v1, v2] := by cases args; simp_all
  obtain ⟨rfl, rfl⟩ := trodVars_none hV
  obtain ⟨a0, rfl, rfl, rfl, w0⟩ := open_string Try.underlying9 (hval 0 9 v0 rfl rfl) h0
  obtain ⟨a1, rfl, rfl, rfl, w1⟩ := open_string Try.underlying9 (hval 1 9 v1 rfl rfl) h1
  obtain ⟨a2, rfl, rfl, rfl, w2⟩ := open_string Try.underlying9 (hval 2 9 v2 rfl rfl) h2
  clear hA0 hval0
  simp only [List.append_nil] at hW'
  refine (walk a0 w0 a1 w1 a2 w2 W).mono fun e W' ⟨he, hg⟩ => ?_
  subst he
  exact ⟨_, rfl, _, _, _, [], [], [], hW', trodAll_mk1 (shut_bool Try.underlying4 _), (trodAll_cons_mk (shut_string Try.underlying9 w0) (trodAll_cons_mk (shut_string Try.underlying9 w1) (trodAll_cons_mk (shut_string Try.underlying9 w2) trodAll_mk0))), rfl, hg.frame _, fun h => by cases h⟩
/-- For every input the law returns true, and each argument reads as it did. -/
theorem proved : Rows.CrcLinearSaid :=
  OpenClaim.holds_of_wide 12 Try.f12 rfl rfl rfl rfl rfl rfl rfl ⟨rfl, rfl, rfl, rfl, rfl⟩ rfl rfl rfl rfl rfl (by kernel_rfl) Try.func12 (by kernel_rfl)
    (of_decide_eq_true (by kernel_rfl)) (by unfold Func.isWrapper; first | (rw [if_pos (by decide +kernel)]; kernel_rfl) | (rw [if_neg (by decide +kernel)]; exact ⟨rfl, rfl⟩))
    (fun os started H enc _ => lifted os started H enc)
end Go.Proofs.Ytphhgebalkaghaa.crcLinear
