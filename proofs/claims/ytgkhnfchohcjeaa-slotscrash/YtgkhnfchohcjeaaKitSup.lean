/- A superblock, and an array of eight bytes, that came in by value: opened. -/
import Derived.Test.YtgkhnfchohcjeaaSupMath
import Derived.SliceStrings
import Derived.ProofKit
import Derived.OpenShut
import Derived.ShutString
namespace Go.Proofs.Ytgkhnfchohcjeaa
open Go.RowKit Go.ChangeShapes Go.WideShapes

/-- eight bytes -/
structure A8 where
  a0 : Nat
  a1 : Nat
  a2 : Nat
  a3 : Nat
  a4 : Nat
  a5 : Nat
  a6 : Nat
  a7 : Nat
def arrV (l : A8) : Value := .agg #[.int .u8 (l.a0 : Int), .int .u8 (l.a1 : Int), .int .u8 (l.a2 : Int), .int .u8 (l.a3 : Int), .int .u8 (l.a4 : Int), .int .u8 (l.a5 : Int), .int .u8 (l.a6 : Int), .int .u8 (l.a7 : Int)]
structure A8.Ok (l : A8) : Prop where
  a0 : l.a0 < 256
  a1 : l.a1 < 256
  a2 : l.a2 < 256
  a3 : l.a3 < 256
  a4 : l.a4 < 256
  a5 : l.a5 < 256
  a6 : l.a6 < 256
  a7 : l.a7 < 256
/-- a superblock's numbers are in their types' bounds, all of them -/
structure Su.Wf (s : Su) : Prop where
  uu : s.uu < 18446744073709551616
  ev : s.ev < 18446744073709551616
  role : -9223372036854775808 ≤ s.role ∧ s.role ≤ 9223372036854775807
  c : -9223372036854775808 ≤ s.c ∧ s.c ≤ 9223372036854775807
  k : -9223372036854775808 ≤ s.k ∧ s.k ≤ 9223372036854775807
  r : -9223372036854775808 ≤ s.r ∧ s.r ≤ 9223372036854775807
  b : -9223372036854775808 ≤ s.b ∧ s.b ≤ 9223372036854775807
  nw : -9223372036854775808 ≤ s.nw ∧ s.nw ≤ 9223372036854775807
  g : -9223372036854775808 ≤ s.g ∧ s.g ≤ 9223372036854775807

theorem list8 {α : Type} {l : List α} (h : l.length = 8) : ∃ a b c d e f g i, l = [a, b, c, d, e, f, g, i] := by
  match l, h with
  | [a, b, c, d, e, f, g, i], _ => exact ⟨a, b, c, d, e, f, g, i, rfl⟩
theorem list10 {α : Type} {l : List α} (h : l.length = 10) : ∃ a b c d e f g i j k, l = [a, b, c, d, e, f, g, i, j, k] := by
  match l, h with
  | [a, b, c, d, e, f, g, i, j, k], _ => exact ⟨a, b, c, d, e, f, g, i, j, k, rfl⟩
theorem list3 {α : Type} {l : List α} (h : l.length = 3) : ∃ a b c, l = [a, b, c] := by
  match l, h with
  | [a, b, c], _ => exact ⟨a, b, c, rfl⟩
theorem u8_nat {n : Int} (h : (Lit.int .u8 n).wf = true) : ∃ m : Nat, n = m ∧ m < 256 := by
  have := bounds_u8 h
  exact ⟨n.toNat, by omega, by omega⟩
theorem u64_nat {n : Int} (h : (Lit.int .u64 n).wf = true) : ∃ m : Nat, n = m ∧ m < 18446744073709551616 := by
  have := bounds_u64 h
  exact ⟨n.toNat, by omega, by omega⟩

/-- two texts -/
def str2V (l : ByteArray × ByteArray) : Value := .agg #[.string l.1, .string l.2]
section
variable {H : Type} {enc : TypeId × Value → H} {w : World} {base : Nat} {spare : Nat → Bool} {held : Bool}
theorem okWide_array2 {P : Program} {r : Reach} {base : Nat} {t n e : Nat} {v : Value} (ht : P.underlying t = some (.array n e)) (h : Value.okWide P w r base t v) : ∃ cs, v = .agg cs ∧ cs.size = P.cellsOf t := by
  simp only [Value.okWide, ht] at h
  obtain ⟨cs, h1, h2, _⟩ := h
  exact ⟨cs, h1, h2⟩
theorem list2 {α : Type} {l : List α} (h : l.length = 2) : ∃ a b, l = [a, b] := by
  match l, h with
  | [a, b], _ => exact ⟨a, b, rfl⟩
set_option maxRecDepth 100000 in
theorem open_str2 {r : Reach} {b0 : Nat} {v : Value} {d : DataW H} {p : List MemPlace} (hv : Value.okWide Try.prog w r b0 48 v) (h : DataW.Trod enc Try.prog w base spare held 48 v d p) :
    ∃ l : ByteArray × ByteArray, v = str2V l ∧ (l.1.size ≤ maxLen ∧ l.2.size ≤ maxLen) := by
  obtain ⟨cs, rfl, hsz⟩ := okWide_array2 Try.underlying48 hv
  obtain ⟨fuel, hf⟩ := h
  obtain ⟨xs, m, _, _, _, hlen, he⟩ := DataW.trod_array Try.underlying48 hf
  have hc8 : Try.prog.cellsOf 48 = 2 := by kernel_rfl
  have hc1 : Try.prog.cellsOf 9 = 1 := by kernel_rfl
  rw [hc8] at hsz
  obtain ⟨cl⟩ := cs
  obtain ⟨v0, v1, rfl⟩ := list2 (show cl.length = 2 from hsz)
  obtain ⟨y0, y1, rfl⟩ := list2 hlen
  rw [hc1] at he
  have h0 := he 0 (by decide)
  have h1 := he 1 (by decide)
  simp only [Value.cells, Nat.mul_one, List.drop_succ_cons, List.drop_zero, List.take_succ_cons, List.take_zero, List.getElem?_cons_zero, List.getElem?_cons_succ] at h0 h1
  obtain ⟨s0, q0, _, w0⟩ := DataW.trod_string Try.underlying9 h0
  obtain ⟨s1, q1, _, w1⟩ := DataW.trod_string Try.underlying9 h1
  cases q0; cases q1
  exact ⟨(s0, s1), rfl, w0, w1⟩

set_option maxRecDepth 100000 in
theorem open_geo {fuel : Nat} {cs : List Value} {y : DataW H × List MemPlace} (h : DataW.trod enc Try.prog w base spare held fuel 28 cs = some y) :
    ∃ c k r : Int, cs = [.int .i64 c, .int .i64 k, .int .i64 r] ∧ (Lit.int .i64 c).wf = true ∧ (Lit.int .i64 k).wf = true ∧ (Lit.int .i64 r).wf = true := by
  obtain ⟨f0, f1, f2, ht, ⟨t0, o0⟩, ⟨t1, o1⟩, ⟨t2, o2⟩⟩ : ∃ f0 f1 f2 : Field, Try.prog.underlying 28 = some (.struct #[f0, f1, f2]) ∧ (f0.type = 3 ∧ f0.offset = 0) ∧ (f1.type = 3 ∧ f1.offset = 1) ∧ (f2.type = 3 ∧ f2.offset = 2) :=
    ⟨_, _, _, Try.underlying28, ⟨rfl, rfl⟩, ⟨rfl, rfl⟩, ⟨rfl, rfl⟩⟩
  have e3 : Try.prog.cellsOf 28 = 3 := by kernel_rfl
  have e1 : Try.prog.cellsOf 3 = 1 := by kernel_rfl
  obtain ⟨xs, n, _, rfl, hl, hlen, hf⟩ := DataW.trod_struct ht h
  obtain ⟨v0, v1, v2, rfl⟩ := list3 (hl.trans e3)
  obtain ⟨y0, y1, y2, rfl⟩ := list3 hlen
  have h0 := hf 0 f0 rfl
  have h1 := hf 1 f1 rfl
  have h2 := hf 2 f2 rfl
  rw [t0, o0, e1] at h0
  rw [t1, o1, e1] at h1
  rw [t2, o2, e1] at h2
  simp only [List.drop_succ_cons, List.drop_zero, List.take_succ_cons, List.take_zero, List.getElem?_cons_zero, List.getElem?_cons_succ] at h0 h1 h2
  obtain ⟨n0, q0, _, w0⟩ := DataW.trod_int Try.underlying3 h0
  obtain ⟨n1, q1, _, w1⟩ := DataW.trod_int Try.underlying3 h1
  obtain ⟨n2, q2, _, w2⟩ := DataW.trod_int Try.underlying3 h2
  cases q0; cases q1; cases q2
  exact ⟨n0, n1, n2, rfl, w0, w1, w2⟩
set_option maxRecDepth 100000 in
theorem open_sup {r : Reach} {b0 : Nat} {v : Value} {d : DataW H} {p : List MemPlace} (hv : Value.okWide Try.prog w r b0 30 v) (h : DataW.Trod enc Try.prog w base spare held 30 v d p) :
    ∃ s : Su, v = supV s ∧ s.Wf := by
  obtain ⟨f0, f1, f2, f3, f4, f5, f6, f7, ht, ⟨t0, o0⟩, ⟨t1, o1⟩, ⟨t2, o2⟩, ⟨t3, o3⟩, ⟨t4, o4⟩, ⟨t5, o5⟩, ⟨t6, o6⟩, ⟨t7, o7⟩⟩ : ∃ f0 f1 f2 f3 f4 f5 f6 f7 : Field, Try.prog.underlying 30 = some (.struct #[f0, f1, f2, f3, f4, f5, f6, f7]) ∧ (f0.type = 22 ∧ f0.offset = 0) ∧ (f1.type = 22 ∧ f1.offset = 1) ∧ (f2.type = 3 ∧ f2.offset = 2) ∧ (f3.type = 28 ∧ f3.offset = 3) ∧ (f4.type = 4 ∧ f4.offset = 6) ∧ (f5.type = 3 ∧ f5.offset = 7) ∧ (f6.type = 3 ∧ f6.offset = 8) ∧ (f7.type = 3 ∧ f7.offset = 9) :=
    ⟨_, _, _, _, _, _, _, _, Try.underlying30, ⟨rfl, rfl⟩, ⟨rfl, rfl⟩, ⟨rfl, rfl⟩, ⟨rfl, rfl⟩, ⟨rfl, rfl⟩, ⟨rfl, rfl⟩, ⟨rfl, rfl⟩, ⟨rfl, rfl⟩⟩
  obtain ⟨cs, rfl, hsz⟩ := okWide_struct ht hv
  obtain ⟨fuel, hf0⟩ := h
  obtain ⟨xs, n, _, _, _, hlen, hf⟩ := DataW.trod_struct ht hf0
  have e10 : Try.prog.cellsOf 30 = 10 := by kernel_rfl
  have e1 : Try.prog.cellsOf 3 = 1 := by kernel_rfl
  have eu : Try.prog.cellsOf 22 = 1 := by kernel_rfl
  have eb : Try.prog.cellsOf 4 = 1 := by kernel_rfl
  have eg : Try.prog.cellsOf 28 = 3 := by kernel_rfl
  rw [e10] at hsz
  obtain ⟨cl⟩ := cs
  obtain ⟨v0, v1, v2, v3, v4, v5, v6, v7, v8, v9, rfl⟩ := list10 (show cl.length = 10 from hsz)
  obtain ⟨y0, y1, y2, y3, y4, y5, y6, y7, rfl⟩ := list8 hlen
  have h0 := hf 0 f0 rfl
  have h1 := hf 1 f1 rfl
  have h2 := hf 2 f2 rfl
  have h3 := hf 3 f3 rfl
  have h4 := hf 4 f4 rfl
  have h5 := hf 5 f5 rfl
  have h6 := hf 6 f6 rfl
  have h7 := hf 7 f7 rfl
  rw [t0, o0, eu] at h0
  rw [t1, o1, eu] at h1
  rw [t2, o2, e1] at h2
  rw [t3, o3, eg] at h3
  rw [t4, o4, eb] at h4
  rw [t5, o5, e1] at h5
  rw [t6, o6, e1] at h6
  rw [t7, o7, e1] at h7
  simp only [Value.cells, List.drop_succ_cons, List.drop_zero, List.take_succ_cons, List.take_zero, List.getElem?_cons_zero, List.getElem?_cons_succ] at h0 h1 h2 h3 h4 h5 h6 h7
  obtain ⟨n0, q0, _, w0⟩ := DataW.trod_int Try.underlying22 h0
  obtain ⟨n1, q1, _, w1⟩ := DataW.trod_int Try.underlying22 h1
  obtain ⟨n2, q2, _, w2⟩ := DataW.trod_int Try.underlying3 h2
  obtain ⟨c, k, r, q3, w3, w4, w5⟩ := open_geo h3
  obtain ⟨b4, q4, _⟩ := DataW.trod_bool Try.underlying4 h4
  obtain ⟨n5, q5, _, w6⟩ := DataW.trod_int Try.underlying3 h5
  obtain ⟨n6, q6, _, w7⟩ := DataW.trod_int Try.underlying3 h6
  obtain ⟨n7, q7, _, w8⟩ := DataW.trod_int Try.underlying3 h7
  cases q0; cases q1; cases q2; cases q3; cases q4; cases q5; cases q6; cases q7
  obtain ⟨m0, rfl, u0⟩ := u64_nat w0
  obtain ⟨m1, rfl, u1⟩ := u64_nat w1
  exact ⟨⟨m0, m1, n2, c, k, r, b4, n5, n6, n7⟩, rfl, u0, u1, bounds_i64 w2, bounds_i64 w3, bounds_i64 w4, bounds_i64 w5, bounds_i64 w6, bounds_i64 w7, bounds_i64 w8⟩
end
end Go.Proofs.Ytgkhnfchohcjeaa
