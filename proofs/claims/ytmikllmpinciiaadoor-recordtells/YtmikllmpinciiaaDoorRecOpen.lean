/- A record that came in by value: opened. -/
import Derived.Test.YtmikllmpinciiaaDoorRecRow
import Derived.SliceStrings
import Derived.ProofKit
import Derived.OpenShut
import Derived.ShutString
import Derived.SizedLaws
import Derived.Lib.SmallJoins
namespace Go.Proofs.YtmikllmpinciiaaDoor
open Go.RowKit Go.ChangeShapes Go.WideShapes

/-- a record that came in -/
structure RecV where
  seq : Nat
  row : Int
  a : Option Addr
  n : Nat
  cap : Nat
  f : Nat → Prt
def recV (r : RecV) : Value := .agg #[.int .u64 (r.seq : Int), .int .i64 r.row, .slice r.a r.n r.cap]
structure RecWf (w : World) (r : RecV) : Prop where
  seq : r.seq < 18446744073709551616
  inn : RecIn r.row r.n r.f
  parts : PartsR w r.a r.n r.f
  data : ∀ j, j < r.n → (r.f j).data.size ≤ maxLen

section
variable {H : Type} {enc : TypeId × Value → H} {w : World} {base : Nat} {spare : Nat → Bool} {held : Bool}
/-- what was read of the parts has as many elements -/
def RecDat (n : Nat) (d : DataW H) : Prop := n = 0 ∨ ∃ y0 y1 es sp, d = .agg [y0, y1, .slice es sp] ∧ es.length = n
theorem rec_cells : Tryd.prog.cellsOf 3 = 1 ∧ Tryd.prog.cellsOf 9 = 1 ∧ Tryd.prog.cellsOf 58 = 3 := by
  refine ⟨?_, ?_, ?_⟩ <;> kernel_rfl
theorem part_type : ∃ f0 f1 f2 : Field, Tryd.prog.underlying 58 = some (.struct #[f0, f1, f2]) ∧ (f0.type = 3 ∧ f0.offset = 0) ∧ (f1.type = 3 ∧ f1.offset = 1) ∧ (f2.type = 9 ∧ f2.offset = 2) :=
  ⟨_, _, _, Tryd.underlying58, ⟨rfl, rfl⟩, ⟨rfl, rfl⟩, ⟨rfl, rfl⟩⟩
theorem three12 {α : Type} {l : List α} (h : l.length = 3) : ∃ a b c, l = [a, b, c] := by
  match l, h with
  | [a, b, c], _ => exact ⟨a, b, c, rfl⟩
theorem open_part {fuel : Nat} {cs : List Value} {y : DataW H × List MemPlace} (h : DataW.trod enc Tryd.prog w base (fun _ => true) held fuel 58 cs = some y) :
    ∃ (c o : Int) (s : ByteArray), cs = [.int .i64 c, .int .i64 o, .string s] ∧ (Lit.int .i64 c).wf = true ∧ (Lit.int .i64 o).wf = true ∧ s.size ≤ maxLen := by
  obtain ⟨f0, f1, f2, ht, ⟨t0, o0⟩, ⟨t1, o1⟩, ⟨t2, o2⟩⟩ := part_type
  obtain ⟨e0, e2, e4⟩ := rec_cells
  obtain ⟨xs, n, _, rfl, hl, hlen, hf⟩ := DataW.trod_struct ht h
  obtain ⟨v0, v1, v2, rfl⟩ := three12 (hl.trans e4)
  obtain ⟨y0, y1, y2, rfl⟩ := three12 hlen
  have h0 := hf 0 f0 rfl
  have h1 := hf 1 f1 rfl
  have h2 := hf 2 f2 rfl
  rw [t0, o0, e0] at h0
  rw [t1, o1, e0] at h1
  rw [t2, o2, e2] at h2
  simp only [List.drop_succ_cons, List.drop_zero, List.take_succ_cons, List.take_zero, List.getElem?_cons_zero, List.getElem?_cons_succ] at h0 h1 h2
  obtain ⟨c, q0, _, w0⟩ := DataW.trod_int Tryd.underlying3 h0
  obtain ⟨o, q1, _, w1⟩ := DataW.trod_int Tryd.underlying3 h1
  obtain ⟨s, q2, _, w2⟩ := DataW.trod_string Tryd.underlying9 h2
  cases q0; cases q1; cases q2
  exact ⟨c, o, s, rfl, w0, w1, w2⟩
theorem open_parts {fuel : Nat} {cs : List Value} {x : DataW H × List MemPlace} (h : DataW.trod enc Tryd.prog w base (fun _ => true) held fuel 23 cs = some x) :
    ∃ (a : Option Addr) (len cap : Nat) (f : Nat → Prt), cs = [.slice a len cap] ∧ len ≤ maxLen ∧ (len = 0 ∨ ∃ es sp, x.1 = .slice es sp ∧ es.length = len) ∧ PartsR w a len f ∧
      ∀ j, j < len → (Lit.int .i64 (f j).col).wf = true ∧ (Lit.int .i64 (f j).off).wf = true ∧ (f j).data.size ≤ maxLen := by
  rcases DataW.trod_slice Tryd.underlying23 h with ⟨rfl, _⟩ | ⟨⟨b, off, spot⟩, len, cap, elems, rest, n, _, rfl, hx, _, hl, hm, hlen, hel, _⟩
  · exact ⟨none, 0, 0, fun _ => Rc.blankP, rfl, Nat.zero_le _, .inl rfl, PartsR.nil _ _ _, fun _ h => absurd h (Nat.not_lt_zero _)⟩
  have hrd : len = 0 ∨ ∃ es sp, x.1 = .slice es sp ∧ es.length = len := by
    right
    exact ⟨_, _, by rw [hx], by simpa using hlen⟩
  obtain ⟨_, _, e4⟩ := rec_cells
  rw [e4] at hel
  by_cases hpos : 0 < len
  case neg =>
    obtain rfl : len = 0 := by omega
    exact ⟨_, 0, cap, fun _ => Rc.blankP, rfl, Nat.zero_le _, hrd, PartsR.nil _ _ _, fun _ h => absurd h (Nat.not_lt_zero _)⟩
  have hsp : spot = none := by
    have h1 := hel 0 hpos
    rw [List.getElem?_eq_getElem (by omega), Option.bind_eq_some_iff] at h1
    obtain ⟨cs, hcs, hy⟩ := h1
    obtain ⟨_, _, _, rfl, _⟩ := open_part hy
    have h0 := World.cell?_spot ((World.cells?_some hcs).2.2 0 (by omega))
    simpa [Addr.add] using h0
  subst hsp
  have each : ∀ j, j < len → ∃ r : Prt, PartAt w b (off + j * 3) r ∧ (Lit.int .i64 r.col).wf = true ∧ (Lit.int .i64 r.off).wf = true ∧ r.data.size ≤ maxLen := by
    intro j hj
    have h1 := hel j hj
    rw [List.getElem?_eq_getElem (by omega), Option.bind_eq_some_iff] at h1
    obtain ⟨cs, hcs, hy⟩ := h1
    obtain ⟨c, o, s, rfl, k0, k1, k2⟩ := open_part hy
    have hc := (World.cells?_some hcs).2.2
    have hadd : ∀ q, ((⟨b, off, none⟩ : Addr).add (j * 3)).add q = ⟨b, off + j * 3 + q, none⟩ := fun q => by
      unfold Addr.add
      split <;> split <;> simp_all
    exact ⟨⟨c, o, s⟩, ⟨by have := hc 0 (by omega); rw [hadd] at this; exact this, by have := hc 1 (by omega); rw [hadd] at this; exact this, by have := hc 2 (by omega); rw [hadd] at this; exact this⟩, k0, k1, k2⟩
  refine ⟨some ⟨b, off, none⟩, len, cap, fun j => if hj : j < len then (each j hj).choose else Rc.blankP, rfl, by omega, hrd, fun j hj => ⟨b, off, rfl, ?_⟩, fun j hj => ?_⟩
  · show PartAt w b (off + j * 3) (if hj : j < len then (each j hj).choose else Rc.blankP)
    rw [dif_pos hj]
    exact (each j hj).choose_spec.1
  · show (Lit.int .i64 (if hj : j < len then (each j hj).choose else Rc.blankP).col).wf = true ∧ (Lit.int .i64 (if hj : j < len then (each j hj).choose else Rc.blankP).off).wf = true ∧ (if hj : j < len then (each j hj).choose else Rc.blankP).data.size ≤ maxLen
    rw [dif_pos hj]
    exact (each j hj).choose_spec.2
set_option maxRecDepth 100000 in
theorem open_rec {r : Reach} {b0 : Nat} {v : Value} {d : DataW H} {p : List MemPlace} (hv : Value.okWide Tryd.prog w r b0 25 v) (h : DataW.Trod enc Tryd.prog w base (fun _ => true) held 25 v d p) :
    ∃ s : RecV, v = recV s ∧ RecWf w s ∧ RecDat s.n d := by
  obtain ⟨v0, v1, v2, y0, y1, y2, n, rfl, hd, rfl, h0, h1, h2⟩ := Go.Joins.open_agg3 Tryd.underlying25 (by kernel_rfl) (by kernel_rfl) hv h
  obtain ⟨x, q0, _, w0⟩ := DataW.trod_int Tryd.underlying22 h0
  obtain ⟨row, q1, _, w1⟩ := DataW.trod_int Tryd.underlying3 h1
  obtain ⟨a, len, cap, f, q2, hm, hdat, hp, hw⟩ := open_parts h2
  cases q0; cases q1; cases q2
  have hx := bounds_u64 w0
  obtain ⟨m, rfl⟩ := Int.eq_ofNat_of_zero_le hx.1
  have hm' : m < 18446744073709551616 := by have := hx.2; omega
  have hml : len ≤ 9223372036854775807 := by unfold maxLen at hm; omega
  refine ⟨⟨m, row, a, len, cap, f⟩, rfl, ⟨hm', ⟨bounds_i64 w1, hml, fun j hj => bounds_i64 (hw j hj).1, fun j hj => bounds_i64 (hw j hj).2.1⟩, hp, fun j hj => (hw j hj).2.2⟩, ?_⟩
  rcases hdat with h0 | ⟨es, sp, e, hl⟩
  · exact .inl h0
  · exact .inr ⟨_, _, es, sp, by rw [hd, e], hl⟩
theorem rec_sized {ts : List TypeId} {ds : List (DataW H)} {d : DataW H} {n j : Nat} (hd : RecDat n d) (h : (DataW.weightsEach Tryd.prog ts ds).all (· ≤ reachBytes) = true) (ht : ts[j]? = some 25) (hj : ds[j]? = some d) : n * 16 ≤ 140737488355328 := by
  rcases hd with rfl | ⟨y0, y1, es, sp, rfl, rfl⟩
  · decide
  obtain ⟨f0, f1, f2, hu, h2⟩ : ∃ f0 f1 f2 : Field, Tryd.prog.underlying 25 = some (.struct #[f0, f1, f2]) ∧ f2.type = 23 := ⟨_, _, _, Tryd.underlying25, rfl⟩
  have hb : Tryd.prog.bytesOf 58 = 32 := by kernel_rfl
  have := List.all_eq_true.1 h _ (DataW.weights_mem_each ht hj ((es.length + sp.length) * 32) (by
    simp only [DataW.weights, hu]
    refine DataW.weights_mem_each (j := 2) (t := 23) (d := .slice es sp) (by simp [h2]) rfl _ ?_
    simp only [DataW.weights, Tryd.underlying23, hb]
    exact List.mem_cons_self))
  have h2 : (es.length + sp.length) * 32 ≤ reachBytes := of_decide_eq_true this
  unfold reachBytes at h2
  omega
end
end Go.Proofs.YtmikllmpinciiaaDoor
