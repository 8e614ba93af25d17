/- A list of calls on pages that came in: each a struct of a kind, a drive's number, events and a text. -/
import Derived.Test.YtlcoibfpebggoaaGreatDoorKitRow
import Derived.SliceStrings
import Derived.ProofKit
import Derived.OpenShut
import Derived.ShutString
namespace Go.Proofs.YtlcoibfpebggoaaGreatDoor
open Go.RowKit Go.ChangeShapes Go.WideShapes

/-- one call, as it came in -/
structure Act11 where
  kind : Int
  i : Nat
  ev : Nat
  s : ByteArray
def actL11 (x : Act11) : Array Value := #[.int .i64 x.kind, .int .u8 (x.i : Int), .int .u64 (x.ev : Int), .string x.s]
/-- where it lies -/
structure ActAt11 (w : World) (b o : Nat) (x : Act11) : Prop where
  c0 : w.cell? ⟨b, o, none⟩ = some (.int .i64 x.kind)
  c1 : w.cell? ⟨b, o + 1, none⟩ = some (.int .u8 (x.i : Int))
  c2 : w.cell? ⟨b, o + 2, none⟩ = some (.int .u64 (x.ev : Int))
  c3 : w.cell? ⟨b, o + 3, none⟩ = some (.string x.s)
  i : x.i < 256
  ev : x.ev < 18446744073709551616
  s : x.s.size ≤ maxLen
section
variable {H : Type} {enc : TypeId × Value → H} {w : World} {base : Nat} {spare : Nat → Bool} {held : Bool}
theorem acts11_type : ∃ f0 f1 f2 f3 : Field, Tryz.prog.underlying 44 = some (.struct #[f0, f1, f2, f3]) ∧ (f0.type = 3 ∧ f0.offset = 0) ∧ (f1.type = 5 ∧ f1.offset = 1) ∧ (f2.type = 22 ∧ f2.offset = 2) ∧ (f3.type = 9 ∧ f3.offset = 3) :=
  ⟨_, _, _, _, Tryz.underlying44, ⟨rfl, rfl⟩, ⟨rfl, rfl⟩, ⟨rfl, rfl⟩, ⟨rfl, rfl⟩⟩
theorem acts11_cells : Tryz.prog.cellsOf 3 = 1 ∧ Tryz.prog.cellsOf 5 = 1 ∧ Tryz.prog.cellsOf 22 = 1 ∧ Tryz.prog.cellsOf 9 = 1 ∧ Tryz.prog.cellsOf 44 = 4 := by
  refine ⟨?_, ?_, ?_, ?_, ?_⟩ <;> kernel_rfl
theorem list4_11 {α : Type} {l : List α} (h : l.length = 4) : ∃ a b c d, l = [a, b, c, d] := by
  match l, h with
  | [a, b, c, d], _ => exact ⟨a, b, c, d, rfl⟩
theorem open_act11 {fuel : Nat} {cs : List Value} {y : DataW H × List MemPlace} (h : DataW.trod enc Tryz.prog w base (fun _ => true) held fuel 44 cs = some y) :
    ∃ x : Act11, cs = [.int .i64 x.kind, .int .u8 (x.i : Int), .int .u64 (x.ev : Int), .string x.s] ∧ x.i < 256 ∧ x.ev < 18446744073709551616 ∧ x.s.size ≤ maxLen := by
  obtain ⟨f0, f1, f2, f3, ht, ⟨t0, o0⟩, ⟨t1, o1⟩, ⟨t2, o2⟩, ⟨t3, o3⟩⟩ := acts11_type
  obtain ⟨e0, e1, e2, e3, e4⟩ := acts11_cells
  obtain ⟨xs, n, _, rfl, hl, hlen, hf⟩ := DataW.trod_struct ht h
  obtain ⟨v0, v1, v2, v3, rfl⟩ := list4_11 (hl.trans e4)
  obtain ⟨y0, y1, y2, y3, rfl⟩ := list4_11 hlen
  have h0 := hf 0 f0 rfl
  have h1 := hf 1 f1 rfl
  have h2 := hf 2 f2 rfl
  have h3 := hf 3 f3 rfl
  rw [t0, o0, e0] at h0
  rw [t1, o1, e1] at h1
  rw [t2, o2, e2] at h2
  rw [t3, o3, e3] at h3
  simp only [List.drop_succ_cons, List.drop_zero, List.take_succ_cons, List.take_zero, List.getElem?_cons_zero, List.getElem?_cons_succ] at h0 h1 h2 h3
  obtain ⟨kind, q0, _, w0⟩ := DataW.trod_int Tryz.underlying3 h0
  obtain ⟨i, q1, _, w1⟩ := DataW.trod_int Tryz.underlying5 h1
  obtain ⟨ev, q2, _, w2⟩ := DataW.trod_int Tryz.underlying22 h2
  obtain ⟨s, q3, _, w3⟩ := DataW.trod_string Tryz.underlying9 h3
  cases q0; cases q1; cases q2; cases q3
  have hi := bounds_u8 w1
  have he := bounds_u64 w2
  obtain ⟨i, rfl⟩ := Int.eq_ofNat_of_zero_le hi.1
  obtain ⟨ev, rfl⟩ := Int.eq_ofNat_of_zero_le he.1
  exact ⟨⟨kind, i, ev, s⟩, rfl, by have := hi.2; show i < 256; omega, by have := he.2; show ev < 18446744073709551616; omega, w3⟩
theorem open_acts11 {fuel : Nat} {cs : List Value} {x : DataW H × List MemPlace} (h : DataW.trod enc Tryz.prog w base (fun _ => true) held fuel 36 cs = some x) :
    ∃ (a : Option Addr) (len cap : Nat) (f : Nat → Act11), cs = [.slice a len cap] ∧ len ≤ maxLen ∧ (0 < len → ∃ b off, a = some ⟨b, off, none⟩ ∧ ∀ j, j < len → ActAt11 w b (off + j * 4) (f j)) := by
  rcases DataW.trod_slice Tryz.underlying36 h with ⟨rfl, _⟩ | ⟨⟨b, off, spot⟩, len, cap, elems, rest, n, _, rfl, _, _, hl, hm, hlen, hel, _⟩
  · exact ⟨none, 0, 0, fun _ => ⟨0, 0, 0, ByteArray.empty⟩, rfl, Nat.zero_le _, fun h => absurd h (Nat.lt_irrefl _)⟩
  obtain ⟨_, _, _, _, e4⟩ := acts11_cells
  rw [e4] at hel
  by_cases hpos : 0 < len
  case neg => exact ⟨_, len, cap, fun _ => ⟨0, 0, 0, ByteArray.empty⟩, rfl, by omega, fun h => absurd h hpos⟩
  have hsp : spot = none := by
    have h1 := hel 0 hpos
    rw [List.getElem?_eq_getElem (by omega), Option.bind_eq_some_iff] at h1
    obtain ⟨cs, hcs, hy⟩ := h1
    obtain ⟨_, rfl, _⟩ := open_act11 hy
    have h0 := World.cell?_spot ((World.cells?_some hcs).2.2 0 (by omega))
    simpa [Addr.add] using h0
  subst hsp
  have each : ∀ j, j < len → ∃ r : Act11, ActAt11 w b (off + j * 4) r := by
    intro j hj
    have h1 := hel j hj
    rw [List.getElem?_eq_getElem (by omega), Option.bind_eq_some_iff] at h1
    obtain ⟨cs, hcs, hy⟩ := h1
    obtain ⟨x, rfl, k1, k2, k3⟩ := open_act11 hy
    have hc := (World.cells?_some hcs).2.2
    have hadd : ∀ q, ((⟨b, off, none⟩ : Addr).add (j * 4)).add q = ⟨b, off + j * 4 + q, none⟩ := fun q => by
      unfold Addr.add
      split <;> split <;> simp_all
    exact ⟨x, ⟨by have := hc 0 (by omega); rw [hadd] at this; exact this, by have := hc 1 (by omega); rw [hadd] at this; exact this, by have := hc 2 (by omega); rw [hadd] at this; exact this, by have := hc 3 (by omega); rw [hadd] at this; exact this, k1, k2, k3⟩⟩
  refine ⟨some ⟨b, off, none⟩, len, cap, fun j => if hj : j < len then (each j hj).choose else ⟨0, 0, 0, ByteArray.empty⟩, rfl, by omega, fun h0 => ⟨b, off, rfl, fun j hj => ?_⟩⟩
  show ActAt11 w b (off + j * 4) (if hj : j < len then (each j hj).choose else ⟨0, 0, 0, ByteArray.empty⟩)
  rw [dif_pos hj]
  exact (each j hj).choose_spec
end
end Go.Proofs.YtlcoibfpebggoaaGreatDoor
