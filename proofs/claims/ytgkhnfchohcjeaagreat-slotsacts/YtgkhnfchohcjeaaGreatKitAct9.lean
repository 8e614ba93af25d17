/- A list of calls on slots that came in: each a struct of a kind, a number, a superblock and a text. -/
import Derived.Test.YtgkhnfchohcjeaaGreatKitSup
import Derived.Test.YtgkhnfchohcjeaaGreatMSlA
import Derived.SliceStrings
import Derived.ProofKit
import Derived.OpenShut
import Derived.ShutString
namespace Go.Proofs.YtgkhnfchohcjeaaGreat
open Go.RowKit Go.ChangeShapes Go.WideShapes

/-- one call, as it came in -/
structure Act9 where
  kind : Int
  i : Int
  s : Su
  b : ByteArray
def actL (x : Act9) : List Value := [.int .i64 x.kind, .int .i64 x.i] ++ supL x.s ++ [.string x.b]
/-- where it lies -/
structure ActAt9 (w : World) (b o : Nat) (x : Act9) : Prop where
  at_ : w.rangeAt b o (actL x)
  k : -9223372036854775808 ≤ x.kind ∧ x.kind ≤ 9223372036854775807
  i : -9223372036854775808 ≤ x.i ∧ x.i ≤ 9223372036854775807
  s : x.s.Wf
  b : x.b.size ≤ maxLen
section
variable {H : Type} {enc : TypeId × Value → H} {w : World} {base : Nat} {spare : Nat → Bool} {held : Bool}
set_option maxRecDepth 100000 in
theorem open_sup_cells {fuel : Nat} {cs : List Value} {y : DataW H × List MemPlace} (h : DataW.trod enc Tryz.prog w base spare held fuel 32 cs = some y) :
    ∃ s : Su, cs = supL s ∧ s.Wf := by
  obtain ⟨f0, f1, f2, f3, f4, f5, f6, f7, ht, ⟨t0, o0⟩, ⟨t1, o1⟩, ⟨t2, o2⟩, ⟨t3, o3⟩, ⟨t4, o4⟩, ⟨t5, o5⟩, ⟨t6, o6⟩, ⟨t7, o7⟩⟩ : ∃ f0 f1 f2 f3 f4 f5 f6 f7 : Field, Tryz.prog.underlying 32 = some (.struct #[f0, f1, f2, f3, f4, f5, f6, f7]) ∧ (f0.type = 28 ∧ f0.offset = 0) ∧ (f1.type = 28 ∧ f1.offset = 1) ∧ (f2.type = 3 ∧ f2.offset = 2) ∧ (f3.type = 30 ∧ f3.offset = 3) ∧ (f4.type = 4 ∧ f4.offset = 6) ∧ (f5.type = 3 ∧ f5.offset = 7) ∧ (f6.type = 3 ∧ f6.offset = 8) ∧ (f7.type = 3 ∧ f7.offset = 9) :=
    ⟨_, _, _, _, _, _, _, _, Tryz.underlying32, ⟨rfl, rfl⟩, ⟨rfl, rfl⟩, ⟨rfl, rfl⟩, ⟨rfl, rfl⟩, ⟨rfl, rfl⟩, ⟨rfl, rfl⟩, ⟨rfl, rfl⟩, ⟨rfl, rfl⟩⟩
  obtain ⟨xs, n, _, _, hl, hlen, hf⟩ := DataW.trod_struct ht h
  have e10 : Tryz.prog.cellsOf 32 = 10 := by kernel_rfl
  have e1 : Tryz.prog.cellsOf 3 = 1 := by kernel_rfl
  have eu : Tryz.prog.cellsOf 28 = 1 := by kernel_rfl
  have eb : Tryz.prog.cellsOf 4 = 1 := by kernel_rfl
  have eg : Tryz.prog.cellsOf 30 = 3 := by kernel_rfl
  obtain ⟨v0, v1, v2, v3, v4, v5, v6, v7, v8, v9, rfl⟩ := list10 (hl.trans e10)
  obtain ⟨y0, y1, y2, y3, y4, y5, y6, y7, rfl⟩ := list8 hlen
  have h0 := hf 0 f0 rfl
  have h1 := hf 1 f1 rfl
  have h2 := hf 2 f2 rfl
  have h3 := hf 3 f3 rfl
  have h4 := hf 4 f4 rfl
  have h5 := hf 5 f5 rfl
  have h6 := hf 6 f6 rfl
  have h7 := hf 7 f7 rfl
  rw [t0, o0, eu] at h0
  rw [t1, o1, eu] at h1
  rw [t2, o2, e1] at h2
  rw [t3, o3, eg] at h3
  rw [t4, o4, eb] at h4
  rw [t5, o5, e1] at h5
  rw [t6, o6, e1] at h6
  rw [t7, o7, e1] at h7
  simp only [List.drop_succ_cons, List.drop_zero, List.take_succ_cons, List.take_zero, List.getElem?_cons_zero, List.getElem?_cons_succ] at h0 h1 h2 h3 h4 h5 h6 h7
  obtain ⟨n0, q0, _, w0⟩ := DataW.trod_int Tryz.underlying28 h0
  obtain ⟨n1, q1, _, w1⟩ := DataW.trod_int Tryz.underlying28 h1
  obtain ⟨n2, q2, _, w2⟩ := DataW.trod_int Tryz.underlying3 h2
  obtain ⟨c, k, r, q3, w3, w4, w5⟩ := open_geo h3
  obtain ⟨b4, q4, _⟩ := DataW.trod_bool Tryz.underlying4 h4
  obtain ⟨n5, q5, _, w6⟩ := DataW.trod_int Tryz.underlying3 h5
  obtain ⟨n6, q6, _, w7⟩ := DataW.trod_int Tryz.underlying3 h6
  obtain ⟨n7, q7, _, w8⟩ := DataW.trod_int Tryz.underlying3 h7
  cases q0; cases q1; cases q2; cases q3; cases q4; cases q5; cases q6; cases q7
  obtain ⟨m0, rfl, u0⟩ := u64_nat w0
  obtain ⟨m1, rfl, u1⟩ := u64_nat w1
  exact ⟨⟨m0, m1, n2, c, k, r, b4, n5, n6, n7⟩, rfl, u0, u1, bounds_i64 w2, bounds_i64 w3, bounds_i64 w4, bounds_i64 w5, bounds_i64 w6, bounds_i64 w7, bounds_i64 w8⟩
theorem list4b {α : Type} {l : List α} (h : l.length = 4) : ∃ a b c d, l = [a, b, c, d] := by
  match l, h with
  | [a, b, c, d], _ => exact ⟨a, b, c, d, rfl⟩
set_option maxRecDepth 100000 in
theorem open_act9 {fuel : Nat} {cs : List Value} {y : DataW H × List MemPlace} (h : DataW.trod enc Tryz.prog w base spare held fuel 34 cs = some y) :
    ∃ x : Act9, cs = actL x ∧ (-9223372036854775808 ≤ x.kind ∧ x.kind ≤ 9223372036854775807) ∧ (-9223372036854775808 ≤ x.i ∧ x.i ≤ 9223372036854775807) ∧ x.s.Wf ∧ x.b.size ≤ maxLen := by
  obtain ⟨f0, f1, f2, f3, ht, ⟨t0, o0⟩, ⟨t1, o1⟩, ⟨t2, o2⟩, ⟨t3, o3⟩⟩ : ∃ f0 f1 f2 f3 : Field, Tryz.prog.underlying 34 = some (.struct #[f0, f1, f2, f3]) ∧ (f0.type = 3 ∧ f0.offset = 0) ∧ (f1.type = 3 ∧ f1.offset = 1) ∧ (f2.type = 32 ∧ f2.offset = 2) ∧ (f3.type = 9 ∧ f3.offset = 12) :=
    ⟨_, _, _, _, Tryz.underlying34, ⟨rfl, rfl⟩, ⟨rfl, rfl⟩, ⟨rfl, rfl⟩, ⟨rfl, rfl⟩⟩
  have e13 : Tryz.prog.cellsOf 34 = 13 := by kernel_rfl
  have e1 : Tryz.prog.cellsOf 3 = 1 := by kernel_rfl
  have e10 : Tryz.prog.cellsOf 32 = 10 := by kernel_rfl
  have es : Tryz.prog.cellsOf 9 = 1 := by kernel_rfl
  obtain ⟨xs, n, _, rfl, hl, hlen, hf⟩ := DataW.trod_struct ht h
  rw [e13] at hl
  obtain ⟨y0, y1, y2, y3, rfl⟩ := list4b hlen
  have h0 := hf 0 f0 rfl
  have h1 := hf 1 f1 rfl
  have h2 := hf 2 f2 rfl
  have h3 := hf 3 f3 rfl
  rw [t0, o0, e1] at h0
  rw [t1, o1, e1] at h1
  rw [t2, o2, e10] at h2
  rw [t3, o3, es] at h3
  obtain ⟨kind, q0, _, w0⟩ := DataW.trod_int Tryz.underlying3 h0
  obtain ⟨i, q1, _, w1⟩ := DataW.trod_int Tryz.underlying3 h1
  obtain ⟨s, q2, w2⟩ := open_sup_cells h2
  obtain ⟨b, q3, _, w3⟩ := DataW.trod_string Tryz.underlying9 h3
  refine ⟨⟨kind, i, s, b⟩, ?_, bounds_i64 w0, bounds_i64 w1, w2, w3⟩
  have hsplit : cs = (cs.drop 0).take 1 ++ ((cs.drop 1).take 1 ++ ((cs.drop 2).take 10 ++ (cs.drop 12).take 1)) := by
    have a1 : (cs.drop 2).take 10 ++ (cs.drop 12).take 1 = cs.drop 2 := by
      rw [show cs.drop 12 = (cs.drop 2).drop 10 by rw [List.drop_drop], List.take_of_length_le (l := (cs.drop 2).drop 10) (by simp; omega), List.take_append_drop]
    have a2 : (cs.drop 1).take 1 ++ cs.drop 2 = cs.drop 1 := by
      rw [show cs.drop 2 = (cs.drop 1).drop 1 by rw [List.drop_drop], List.take_append_drop]
    rw [a1, a2, List.drop_zero, List.take_append_drop]
  rw [hsplit, q0, q1, q2, q3]
  simp [actL]
theorem open_acts9 {fuel : Nat} {cs : List Value} {x : DataW H × List MemPlace} (h : DataW.trod enc Tryz.prog w base (fun _ => true) held fuel 22 cs = some x) :
    ∃ (a : Option Addr) (len cap : Nat) (f : Nat → Act9), cs = [.slice a len cap] ∧ len ≤ maxLen ∧ (0 < len → ∃ b off, a = some ⟨b, off, none⟩ ∧ ∀ j, j < len → ActAt9 w b (off + j * 13) (f j)) := by
  have e13 : Tryz.prog.cellsOf 34 = 13 := by kernel_rfl
  rcases DataW.trod_slice Tryz.underlying22 h with ⟨rfl, _⟩ | ⟨⟨b, off, spot⟩, len, cap, elems, rest, n, _, rfl, _, _, hl, hm, hlen, hel, _⟩
  · exact ⟨none, 0, 0, fun _ => ⟨0, 0, Sup.none, ByteArray.empty⟩, rfl, Nat.zero_le _, fun h => absurd h (Nat.lt_irrefl _)⟩
  rw [e13] at hel
  by_cases hpos : 0 < len
  case neg => exact ⟨_, len, cap, fun _ => ⟨0, 0, Sup.none, ByteArray.empty⟩, rfl, by omega, fun h => absurd h hpos⟩
  have hsp : spot = none := by
    have h1 := hel 0 hpos
    rw [List.getElem?_eq_getElem (by omega), Option.bind_eq_some_iff] at h1
    obtain ⟨cs, hcs, hy⟩ := h1
    obtain ⟨x, rfl, _⟩ := open_act9 hy
    have h0 := World.cell?_spot ((World.cells?_some hcs).2.2 0 (by omega))
    simpa [Addr.add] using h0
  subst hsp
  have each : ∀ j, j < len → ∃ r : Act9, ActAt9 w b (off + j * 13) r := by
    intro j hj
    have h1 := hel j hj
    rw [List.getElem?_eq_getElem (by omega), Option.bind_eq_some_iff] at h1
    obtain ⟨cs, hcs, hy⟩ := h1
    obtain ⟨x, rfl, k0, k1, k2, k3⟩ := open_act9 hy
    have hc := World.cells?_some hcs
    refine ⟨x, ⟨fun q v hv => ?_, k0, k1, k2, k3⟩⟩
    have hq := (List.getElem?_eq_some_iff.1 hv).1
    have := hc.2.2 q hq
    rw [hv] at this
    have hadd : ((⟨b, off, none⟩ : Addr).add (j * 13)).add q = ⟨b, off + j * 13 + q, none⟩ := by
      unfold Addr.add
      split <;> split <;> simp_all
    rw [hadd] at this
    exact this
  refine ⟨some ⟨b, off, none⟩, len, cap, fun j => if hj : j < len then (each j hj).choose else ⟨0, 0, Sup.none, ByteArray.empty⟩, rfl, by omega, fun h0 => ⟨b, off, rfl, fun j hj => ?_⟩⟩
  show ActAt9 w b (off + j * 13) (if hj : j < len then (each j hj).choose else ⟨0, 0, Sup.none, ByteArray.empty⟩)
  rw [dif_pos hj]
  exact (each j hj).choose_spec
end
end Go.Proofs.YtgkhnfchohcjeaaGreat
