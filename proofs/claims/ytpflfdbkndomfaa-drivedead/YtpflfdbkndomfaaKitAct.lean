/- A list of calls that came in: each a struct of a kind, a number, a text and a slice of bytes. -/
import Derived.Test.YtpflfdbkndomfaaKitRow
import Derived.SliceStrings
import Derived.ProofKit
import Derived.OpenShut
import Derived.ShutString
namespace Go.Proofs.Ytpflfdbkndomfaa
open Go.RowKit Go.ChangeShapes Go.WideShapes

/-- one call, as it came in -/
structure ActR where
  kind : Int
  i : Int
  s : ByteArray
  a : Option Addr
  n : Nat
  cap : Nat
/-- where it lies -/
structure ActAt (w : World) (b o : Nat) (x : ActR) : Prop where
  c0 : w.cell? ⟨b, o, none⟩ = some (.int .i64 x.kind)
  c1 : w.cell? ⟨b, o + 1, none⟩ = some (.int .i64 x.i)
  c2 : w.cell? ⟨b, o + 2, none⟩ = some (.string x.s)
  c3 : w.cell? ⟨b, o + 3, none⟩ = some (.slice x.a x.n x.cap)
  k : (Lit.int .i64 x.kind).wf = true
  i : (Lit.int .i64 x.i).wf = true
  s : x.s.size ≤ maxLen
  n : x.n ≤ maxLen
  keep : ∃ l : List Nat, l.length = x.n ∧ RowI .u8 w x.a l.length (fun j => ((l.getD j 0 : Nat) : Int)) ∧ (∀ j, l.getD j 0 < 256) ∧ (0 < l.length → ∀ y, x.a = some y → y.block < w.heap.size)

section
variable {H : Type} {enc : TypeId × Value → H} {w : World} {base : Nat} {spare : Nat → Bool} {held : Bool}
theorem acts_type : ∃ f0 f1 f2 f3 : Field, Try.prog.underlying 47 = some (.struct #[f0, f1, f2, f3]) ∧ (f0.type = 3 ∧ f0.offset = 0) ∧ (f1.type = 3 ∧ f1.offset = 1) ∧ (f2.type = 9 ∧ f2.offset = 2) ∧ (f3.type = 23 ∧ f3.offset = 3) :=
  ⟨_, _, _, _, Try.underlying47, ⟨rfl, rfl⟩, ⟨rfl, rfl⟩, ⟨rfl, rfl⟩, ⟨rfl, rfl⟩⟩
theorem acts_cells : Try.prog.cellsOf 3 = 1 ∧ Try.prog.cellsOf 9 = 1 ∧ Try.prog.cellsOf 23 = 1 ∧ Try.prog.cellsOf 47 = 4 := by
  refine ⟨?_, ?_, ?_, ?_⟩ <;> kernel_rfl
theorem list4 {α : Type} {l : List α} (h : l.length = 4) : ∃ a b c d, l = [a, b, c, d] := by
  match l, h with
  | [a, b, c, d], _ => exact ⟨a, b, c, d, rfl⟩
theorem open_act {fuel : Nat} {cs : List Value} {y : DataW H × List MemPlace} (h : DataW.trod enc Try.prog w base (fun _ => true) held fuel 47 cs = some y) :
    ∃ (kind i : Int) (s : ByteArray) (a : Option Addr) (n cap : Nat) (l : List Nat), cs = [.int .i64 kind, .int .i64 i, .string s, .slice a n cap] ∧ (Lit.int .i64 kind).wf = true ∧ (Lit.int .i64 i).wf = true ∧ s.size ≤ maxLen ∧ n ≤ maxLen ∧
      l.length = n ∧ RowI .u8 w a l.length (fun j => ((l.getD j 0 : Nat) : Int)) ∧ (∀ j, l.getD j 0 < 256) ∧ (0 < l.length → ∀ y, a = some y → y.block < w.heap.size) := by
  obtain ⟨f0, f1, f2, f3, ht, ⟨t0, o0⟩, ⟨t1, o1⟩, ⟨t2, o2⟩, ⟨t3, o3⟩⟩ := acts_type
  obtain ⟨e0, e2, e3, e4⟩ := acts_cells
  obtain ⟨xs, n, _, rfl, hl, hlen, hf⟩ := DataW.trod_struct ht h
  obtain ⟨v0, v1, v2, v3, rfl⟩ := list4 (hl.trans e4)
  obtain ⟨y0, y1, y2, y3, rfl⟩ := list4 hlen
  have h0 := hf 0 f0 rfl
  have h1 := hf 1 f1 rfl
  have h2 := hf 2 f2 rfl
  have h3 := hf 3 f3 rfl
  rw [t0, o0, e0] at h0
  rw [t1, o1, e0] at h1
  rw [t2, o2, e2] at h2
  rw [t3, o3, e3] at h3
  simp only [List.drop_succ_cons, List.drop_zero, List.take_succ_cons, List.take_zero, List.getElem?_cons_zero, List.getElem?_cons_succ] at h0 h1 h2 h3
  obtain ⟨kind, q0, _, w0⟩ := DataW.trod_int Try.underlying3 h0
  obtain ⟨i, q1, _, w1⟩ := DataW.trod_int Try.underlying3 h1
  obtain ⟨s, q2, _, w2⟩ := DataW.trod_string Try.underlying9 h2
  cases q0; cases q1; cases q2
  have hrow : ∃ (a : Option Addr) (m cap : Nat) (zs : List Int), v3 = .slice a m cap ∧ IsRow .u8 w a m cap zs := by
    rcases open_ints Try.underlying23 Try.underlying5 (by kernel_rfl) h3 with ⟨hcs, _⟩ | ⟨x, l, c, zs, hcs, _, hl', hm, hz, _, hcell, hwz⟩
    · cases hcs; exact ⟨none, 0, 0, [], rfl, .inl ⟨rfl, rfl, rfl, rfl⟩⟩
    · cases hcs; exact ⟨some x, l, c, zs, rfl, .inr ⟨_, rfl, hl', hm, by simpa using hz, hcell, hwz⟩⟩
  obtain ⟨a, m, cap, zs, rfl, hr⟩ := hrow
  obtain ⟨l, hll, hm, h8, hri⟩ := hr.rowN 256 (by decide) (fun y hy => by have := bounds_u8 hy; omega)
  refine ⟨kind, i, s, a, m, cap, l, rfl, w0, w1, w2, by omega, hll, hri, h8, fun h0 y hy => ?_⟩
  obtain ⟨b, off, hab, hc⟩ := hri 0 h0
  rw [hab] at hy; cases hy
  exact World.block_lt_of_cell? w _ hc
theorem open_acts {fuel : Nat} {cs : List Value} {x : DataW H × List MemPlace} (h : DataW.trod enc Try.prog w base (fun _ => true) held fuel 37 cs = some x) :
    ∃ (a : Option Addr) (len cap : Nat) (f : Nat → ActR), cs = [.slice a len cap] ∧ len ≤ maxLen ∧ (0 < len → ∃ b off, a = some ⟨b, off, none⟩ ∧ ∀ j, j < len → ActAt w b (off + j * 4) (f j)) := by
  rcases DataW.trod_slice Try.underlying37 h with ⟨rfl, _⟩ | ⟨⟨b, off, spot⟩, len, cap, elems, rest, n, _, rfl, _, _, hl, hm, hlen, hel, _⟩
  · exact ⟨none, 0, 0, fun _ => ⟨0, 0, ByteArray.empty, none, 0, 0⟩, rfl, Nat.zero_le _, fun h => absurd h (Nat.lt_irrefl _)⟩
  obtain ⟨_, _, _, e4⟩ := acts_cells
  rw [e4] at hel
  by_cases hpos : 0 < len
  case neg => exact ⟨_, len, cap, fun _ => ⟨0, 0, ByteArray.empty, none, 0, 0⟩, rfl, by omega, fun h => absurd h hpos⟩
  have hsp : spot = none := by
    have h1 := hel 0 hpos
    rw [List.getElem?_eq_getElem (by omega), Option.bind_eq_some_iff] at h1
    obtain ⟨cs, hcs, hy⟩ := h1
    obtain ⟨_, _, _, _, _, _, _, rfl, _⟩ := open_act hy
    have h0 := World.cell?_spot ((World.cells?_some hcs).2.2 0 (by omega))
    simpa [Addr.add] using h0
  subst hsp
  have each : ∀ j, j < len → ∃ r : ActR, ActAt w b (off + j * 4) r := by
    intro j hj
    have h1 := hel j hj
    rw [List.getElem?_eq_getElem (by omega), Option.bind_eq_some_iff] at h1
    obtain ⟨cs, hcs, hy⟩ := h1
    obtain ⟨kind, i, s, a, m, cap', l, rfl, k0, k1, k2, k3, k4, k5, k6, k7⟩ := open_act hy
    have hc := (World.cells?_some hcs).2.2
    have hadd : ∀ q, ((⟨b, off, none⟩ : Addr).add (j * 4)).add q = ⟨b, off + j * 4 + q, none⟩ := fun q => by
      unfold Addr.add
      split <;> split <;> simp_all
    exact ⟨⟨kind, i, s, a, m, cap'⟩, ⟨by have := hc 0 (by omega); rw [hadd] at this; exact this, by have := hc 1 (by omega); rw [hadd] at this; exact this, by have := hc 2 (by omega); rw [hadd] at this; exact this, by have := hc 3 (by omega); rw [hadd] at this; exact this, k0, k1, k2, k3, l, k4, k5, k6, k7⟩⟩
  refine ⟨some ⟨b, off, none⟩, len, cap, fun j => if hj : j < len then (each j hj).choose else ⟨0, 0, ByteArray.empty, none, 0, 0⟩, rfl, by omega, fun h0 => ⟨b, off, rfl, fun j hj => ?_⟩⟩
  show ActAt w b (off + j * 4) (if hj : j < len then (each j hj).choose else ⟨0, 0, ByteArray.empty, none, 0, 0⟩)
  rw [dif_pos hj]
  exact (each j hj).choose_spec
end
end Go.Proofs.Ytpflfdbkndomfaa
