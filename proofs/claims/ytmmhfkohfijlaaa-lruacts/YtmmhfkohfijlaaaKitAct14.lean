/- A list of calls on a list of keys that came in: each a struct of a kind and a key. -/
import Derived.Test.YtmmhfkohfijlaaaKitMem
import Derived.SliceStrings
import Derived.ProofKit
import Derived.OpenShut
namespace Go.Proofs.Ytmmhfkohfijlaaa
open Go.RowKit Go.ChangeShapes Go.WideShapes

/-- one call, as it came in -/
structure Act14 where
  kind : Int
  key : Int
/-- where it lies -/
structure ActAt14 (w : World) (b o : Nat) (x : Act14) : Prop where
  c0 : w.cell? ⟨b, o, none⟩ = some (.int .i64 x.kind)
  c1 : w.cell? ⟨b, o + 1, none⟩ = some (.int .i64 x.key)
  k : (Lit.int .i64 x.kind).wf = true
  i : (Lit.int .i64 x.key).wf = true
section
variable {H : Type} {enc : TypeId × Value → H} {w : World} {base : Nat} {spare : Nat → Bool} {held : Bool}
theorem acts14_type : ∃ f0 f1 : Field, Try.prog.underlying 30 = some (.struct #[f0, f1]) ∧ (f0.type = 3 ∧ f0.offset = 0) ∧ (f1.type = 3 ∧ f1.offset = 1) :=
  ⟨_, _, Try.underlying30, ⟨rfl, rfl⟩, ⟨rfl, rfl⟩⟩
theorem acts14_cells : Try.prog.cellsOf 3 = 1 ∧ Try.prog.cellsOf 30 = 2 := by
  refine ⟨?_, ?_⟩ <;> kernel_rfl
theorem list2_14 {α : Type} {l : List α} (h : l.length = 2) : ∃ a b, l = [a, b] := by
  match l, h with
  | [a, b], _ => exact ⟨a, b, rfl⟩
theorem open_act14 {fuel : Nat} {cs : List Value} {y : DataW H × List MemPlace} (h : DataW.trod enc Try.prog w base (fun _ => true) held fuel 30 cs = some y) :
    ∃ x : Act14, cs = [.int .i64 x.kind, .int .i64 x.key] ∧ (Lit.int .i64 x.kind).wf = true ∧ (Lit.int .i64 x.key).wf = true := by
  obtain ⟨f0, f1, ht, ⟨t0, o0⟩, ⟨t1, o1⟩⟩ := acts14_type
  obtain ⟨e0, e1⟩ := acts14_cells
  obtain ⟨xs, n, _, rfl, hl, hlen, hf⟩ := DataW.trod_struct ht h
  obtain ⟨v0, v1, rfl⟩ := list2_14 (hl.trans e1)
  obtain ⟨y0, y1, rfl⟩ := list2_14 hlen
  have h0 := hf 0 f0 rfl
  have h1 := hf 1 f1 rfl
  rw [t0, o0, e0] at h0
  rw [t1, o1, e0] at h1
  simp only [List.drop_succ_cons, List.drop_zero, List.take_succ_cons, List.take_zero, List.getElem?_cons_zero, List.getElem?_cons_succ] at h0 h1
  obtain ⟨kind, q0, _, w0⟩ := DataW.trod_int Try.underlying3 h0
  obtain ⟨i, q1, _, w1⟩ := DataW.trod_int Try.underlying3 h1
  cases q0; cases q1
  exact ⟨⟨kind, i⟩, rfl, w0, w1⟩
theorem open_acts14 {fuel : Nat} {cs : List Value} {x : DataW H × List MemPlace} (h : DataW.trod enc Try.prog w base (fun _ => true) held fuel 22 cs = some x) :
    ∃ (a : Option Addr) (len cap : Nat) (f : Nat → Act14), cs = [.slice a len cap] ∧ len ≤ maxLen ∧ (0 < len → ∃ b off, a = some ⟨b, off, none⟩ ∧ ∀ j, j < len → ActAt14 w b (off + j * 2) (f j)) := by
  rcases DataW.trod_slice Try.underlying22 h with ⟨rfl, _⟩ | ⟨⟨b, off, spot⟩, len, cap, elems, rest, n, _, rfl, _, _, hl, hm, hlen, hel, _⟩
  · exact ⟨none, 0, 0, fun _ => ⟨0, 0⟩, rfl, Nat.zero_le _, fun h => absurd h (Nat.lt_irrefl _)⟩
  obtain ⟨_, e4⟩ := acts14_cells
  rw [e4] at hel
  by_cases hpos : 0 < len
  case neg => exact ⟨_, len, cap, fun _ => ⟨0, 0⟩, rfl, by omega, fun h => absurd h hpos⟩
  have hsp : spot = none := by
    have h1 := hel 0 hpos
    rw [List.getElem?_eq_getElem (by omega), Option.bind_eq_some_iff] at h1
    obtain ⟨cs, hcs, hy⟩ := h1
    obtain ⟨_, rfl, _⟩ := open_act14 hy
    have h0 := World.cell?_spot ((World.cells?_some hcs).2.2 0 (by omega))
    simpa [Addr.add] using h0
  subst hsp
  have each : ∀ j, j < len → ∃ r : Act14, ActAt14 w b (off + j * 2) r := by
    intro j hj
    have h1 := hel j hj
    rw [List.getElem?_eq_getElem (by omega), Option.bind_eq_some_iff] at h1
    obtain ⟨cs, hcs, hy⟩ := h1
    obtain ⟨x, rfl, hk, hi⟩ := open_act14 hy
    have hc := (World.cells?_some hcs).2.2
    have hadd : ∀ q, ((⟨b, off, none⟩ : Addr).add (j * 2)).add q = ⟨b, off + j * 2 + q, none⟩ := fun q => by
      unfold Addr.add
      split <;> split <;> simp_all
    exact ⟨x, ⟨by have := hc 0 (by omega); rw [hadd] at this; exact this, by have := hc 1 (by omega); rw [hadd] at this; exact this, hk, hi⟩⟩
  refine ⟨some ⟨b, off, none⟩, len, cap, fun j => if hj : j < len then (each j hj).choose else ⟨0, 0⟩, rfl, by omega, fun _ => ⟨b, off, rfl, fun j hj => ?_⟩⟩
  simp only [dif_pos hj]
  exact (each j hj).choose_spec
end
end Go.Proofs.Ytmmhfkohfijlaaa
