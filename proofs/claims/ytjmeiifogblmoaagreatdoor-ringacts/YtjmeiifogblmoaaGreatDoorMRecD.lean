/- Several texts in one. A record that came in by value: opened. What comes in as a law's arguments, as plain numbers and texts. A list of calls on a journal that came in: each a struct of a kind, a number, texts, parts and a slice of bytes. -/
import Derived.Test.YtjmeiifogblmoaaGreatDoorMRecB
import Derived.SliceStrings
import Derived.ProofKit
import Derived.OpenShut
import Derived.ShutString
import Derived.SizedLaws
import Derived.Lib.SmallJoins
import Derived.Test.YtjmeiifogblmoaaGreatDoorKitStr
namespace Go.Proofs.YtjmeiifogblmoaaGreatDoor
open Go.RowKit Go.ChangeShapes Go.WideShapes

/-- a record that came in -/
structure RecV where
  seq : Nat
  row : Int
  a : Option Addr
  n : Nat
  cap : Nat
  f : Nat → Prt
def recV (r : RecV) : Value := .agg #[.int .u64 (r.seq : Int), .int .i64 r.row, .slice r.a r.n r.cap]
structure RecWf (w : World) (r : RecV) : Prop where
  seq : r.seq < 18446744073709551616
  inn : RecIn r.row r.n r.f
  parts : PartsR w r.a r.n r.f
  data : ∀ j, j < r.n → (r.f j).data.size ≤ maxLen

section
variable {H : Type} {enc : TypeId × Value → H} {w : World} {base : Nat} {spare : Nat → Bool} {held : Bool}
/-- what was read of the parts has as many elements -/
def RecDat (n : Nat) (d : DataW H) : Prop := n = 0 ∨ ∃ y0 y1 es sp, d = .agg [y0, y1, .slice es sp] ∧ es.length = n
theorem rec_cells : Tryz.prog.cellsOf 3 = 1 ∧ Tryz.prog.cellsOf 9 = 1 ∧ Tryz.prog.cellsOf 83 = 3 := by
  refine ⟨?_, ?_, ?_⟩ <;> kernel_rfl
theorem part_type : ∃ f0 f1 f2 : Field, Tryz.prog.underlying 83 = some (.struct #[f0, f1, f2]) ∧ (f0.type = 3 ∧ f0.offset = 0) ∧ (f1.type = 3 ∧ f1.offset = 1) ∧ (f2.type = 9 ∧ f2.offset = 2) :=
  ⟨_, _, _, Tryz.underlying83, ⟨rfl, rfl⟩, ⟨rfl, rfl⟩, ⟨rfl, rfl⟩⟩
theorem three12 {α : Type} {l : List α} (h : l.length = 3) : ∃ a b c, l = [a, b, c] := by
  match l, h with
  | [a, b, c], _ => exact ⟨a, b, c, rfl⟩
theorem open_part {fuel : Nat} {cs : List Value} {y : DataW H × List MemPlace} (h : DataW.trod enc Tryz.prog w base (fun _ => true) held fuel 83 cs = some y) :
    ∃ (c o : Int) (s : ByteArray), cs = [.int .i64 c, .int .i64 o, .string s] ∧ (Lit.int .i64 c).wf = true ∧ (Lit.int .i64 o).wf = true ∧ s.size ≤ maxLen := by
  obtain ⟨f0, f1, f2, ht, ⟨t0, o0⟩, ⟨t1, o1⟩, ⟨t2, o2⟩⟩ := part_type
  obtain ⟨e0, e2, e4⟩ := rec_cells
  obtain ⟨xs, n, _, rfl, hl, hlen, hf⟩ := DataW.trod_struct ht h
  obtain ⟨v0, v1, v2, rfl⟩ := three12 (hl.trans e4)
  obtain ⟨y0, y1, y2, rfl⟩ := three12 hlen
  have h0 := hf 0 f0 rfl
  have h1 := hf 1 f1 rfl
  have h2 := hf 2 f2 rfl
  rw [t0, o0, e0] at h0
  rw [t1, o1, e0] at h1
  rw [t2, o2, e2] at h2
  simp only [List.drop_succ_cons, List.drop_zero, List.take_succ_cons, List.take_zero, List.getElem?_cons_zero, List.getElem?_cons_succ] at h0 h1 h2
  obtain ⟨c, q0, _, w0⟩ := DataW.trod_int Tryz.underlying3 h0
  obtain ⟨o, q1, _, w1⟩ := DataW.trod_int Tryz.underlying3 h1
  obtain ⟨s, q2, _, w2⟩ := DataW.trod_string Tryz.underlying9 h2
  cases q0; cases q1; cases q2
  exact ⟨c, o, s, rfl, w0, w1, w2⟩
theorem open_parts {fuel : Nat} {cs : List Value} {x : DataW H × List MemPlace} (h : DataW.trod enc Tryz.prog w base (fun _ => true) held fuel 43 cs = some x) :
    ∃ (a : Option Addr) (len cap : Nat) (f : Nat → Prt), cs = [.slice a len cap] ∧ len ≤ maxLen ∧ (len = 0 ∨ ∃ es sp, x.1 = .slice es sp ∧ es.length = len) ∧ PartsR w a len f ∧
      ∀ j, j < len → (Lit.int .i64 (f j).col).wf = true ∧ (Lit.int .i64 (f j).off).wf = true ∧ (f j).data.size ≤ maxLen := by
  rcases DataW.trod_slice Tryz.underlying43 h with ⟨rfl, _⟩ | ⟨⟨b, off, spot⟩, len, cap, elems, rest, n, _, rfl, hx, _, hl, hm, hlen, hel, _⟩
  · exact ⟨none, 0, 0, fun _ => Rc.blankP, rfl, Nat.zero_le _, .inl rfl, PartsR.nil _ _ _, fun _ h => absurd h (Nat.not_lt_zero _)⟩
  have hrd : len = 0 ∨ ∃ es sp, x.1 = .slice es sp ∧ es.length = len := by
    right
    exact ⟨_, _, by rw [hx], by simpa using hlen⟩
  obtain ⟨_, _, e4⟩ := rec_cells
  rw [e4] at hel
  by_cases hpos : 0 < len
  case neg =>
    obtain rfl : len = 0 := by omega
    exact ⟨_, 0, cap, fun _ => Rc.blankP, rfl, Nat.zero_le _, hrd, PartsR.nil _ _ _, fun _ h => absurd h (Nat.not_lt_zero _)⟩
  have hsp : spot = none := by
    have h1 := hel 0 hpos
    rw [List.getElem?_eq_getElem (by omega), Option.bind_eq_some_iff] at h1
    obtain ⟨cs, hcs, hy⟩ := h1
    obtain ⟨_, _, _, rfl, _⟩ := open_part hy
    have h0 := World.cell?_spot ((World.cells?_some hcs).2.2 0 (by omega))
    simpa [Addr.add] using h0
  subst hsp
  have each : ∀ j, j < len → ∃ r : Prt, PartAt w b (off + j * 3) r ∧ (Lit.int .i64 r.col).wf = true ∧ (Lit.int .i64 r.off).wf = true ∧ r.data.size ≤ maxLen := by
    intro j hj
    have h1 := hel j hj
    rw [List.getElem?_eq_getElem (by omega), Option.bind_eq_some_iff] at h1
    obtain ⟨cs, hcs, hy⟩ := h1
    obtain ⟨c, o, s, rfl, k0, k1, k2⟩ := open_part hy
    have hc := (World.cells?_some hcs).2.2
    have hadd : ∀ q, ((⟨b, off, none⟩ : Addr).add (j * 3)).add q = ⟨b, off + j * 3 + q, none⟩ := fun q => by
      unfold Addr.add
      split <;> split <;> simp_all
    exact ⟨⟨c, o, s⟩, ⟨by have := hc 0 (by omega); rw [hadd] at this; exact this, by have := hc 1 (by omega); rw [hadd] at this; exact this, by have := hc 2 (by omega); rw [hadd] at this; exact this⟩, k0, k1, k2⟩
  refine ⟨some ⟨b, off, none⟩, len, cap, fun j => if hj : j < len then (each j hj).choose else Rc.blankP, rfl, by omega, hrd, fun j hj => ⟨b, off, rfl, ?_⟩, fun j hj => ?_⟩
  · show PartAt w b (off + j * 3) (if hj : j < len then (each j hj).choose else Rc.blankP)
    rw [dif_pos hj]
    exact (each j hj).choose_spec.1
  · show (Lit.int .i64 (if hj : j < len then (each j hj).choose else Rc.blankP).col).wf = true ∧ (Lit.int .i64 (if hj : j < len then (each j hj).choose else Rc.blankP).off).wf = true ∧ (if hj : j < len then (each j hj).choose else Rc.blankP).data.size ≤ maxLen
    rw [dif_pos hj]
    exact (each j hj).choose_spec.2
set_option maxRecDepth 100000 in
theorem open_rec {r : Reach} {b0 : Nat} {v : Value} {d : DataW H} {p : List MemPlace} (hv : Value.okWide Tryz.prog w r b0 71 v) (h : DataW.Trod enc Tryz.prog w base (fun _ => true) held 71 v d p) :
    ∃ s : RecV, v = recV s ∧ RecWf w s ∧ RecDat s.n d := by
  obtain ⟨v0, v1, v2, y0, y1, y2, n, rfl, hd, rfl, h0, h1, h2⟩ := Go.Joins.open_agg3 Tryz.underlying71 (by kernel_rfl) (by kernel_rfl) hv h
  obtain ⟨x, q0, _, w0⟩ := DataW.trod_int Tryz.underlying57 h0
  obtain ⟨row, q1, _, w1⟩ := DataW.trod_int Tryz.underlying3 h1
  obtain ⟨a, len, cap, f, q2, hm, hdat, hp, hw⟩ := open_parts h2
  cases q0; cases q1; cases q2
  have hx := bounds_u64 w0
  obtain ⟨m, rfl⟩ := Int.eq_ofNat_of_zero_le hx.1
  have hm' : m < 18446744073709551616 := by have := hx.2; omega
  have hml : len ≤ 9223372036854775807 := by unfold maxLen at hm; omega
  refine ⟨⟨m, row, a, len, cap, f⟩, rfl, ⟨hm', ⟨bounds_i64 w1, hml, fun j hj => bounds_i64 (hw j hj).1, fun j hj => bounds_i64 (hw j hj).2.1⟩, hp, fun j hj => (hw j hj).2.2⟩, ?_⟩
  rcases hdat with h0 | ⟨es, sp, e, hl⟩
  · exact .inl h0
  · exact .inr ⟨_, _, es, sp, by rw [hd, e], hl⟩
theorem rec_sized {ts : List TypeId} {ds : List (DataW H)} {d : DataW H} {n j : Nat} (hd : RecDat n d) (h : (DataW.weightsEach Tryz.prog ts ds).all (· ≤ reachBytes) = true) (ht : ts[j]? = some 71) (hj : ds[j]? = some d) : n * 16 ≤ 140737488355328 := by
  rcases hd with rfl | ⟨y0, y1, es, sp, rfl, rfl⟩
  · decide
  obtain ⟨f0, f1, f2, hu, h2⟩ : ∃ f0 f1 f2 : Field, Tryz.prog.underlying 71 = some (.struct #[f0, f1, f2]) ∧ f2.type = 43 := ⟨_, _, _, Tryz.underlying71, rfl⟩
  have hb : Tryz.prog.bytesOf 83 = 32 := by kernel_rfl
  have := List.all_eq_true.1 h _ (DataW.weights_mem_each ht hj ((es.length + sp.length) * 32) (by
    simp only [DataW.weights, hu]
    refine DataW.weights_mem_each (j := 2) (t := 43) (d := .slice es sp) (by simp [h2]) rfl _ ?_
    simp only [DataW.weights, Tryz.underlying43, hb]
    exact List.mem_cons_self))
  have h2 : (es.length + sp.length) * 32 ≤ reachBytes := of_decide_eq_true this
  unfold reachBytes at h2
  omega
end
end Go.Proofs.YtjmeiifogblmoaaGreatDoor

namespace Go.Proofs.YtjmeiifogblmoaaGreatDoor
open Go.RowKit Go.ChangeShapes Go.WideShapes

theorem nat12_u8 {n : Int} (h : (Lit.int .u8 n).wf = true) : ∃ m : Nat, n = m ∧ m < 256 := by
  have b := bounds_u8 h
  exact ⟨n.toNat, by omega, by omega⟩
theorem nat12_u16 {n : Int} (h : (Lit.int .u16 n).wf = true) : ∃ m : Nat, n = m ∧ m < 65536 := by
  have b := bounds_u16 h
  exact ⟨n.toNat, by omega, by omega⟩
theorem nat12_u64 {n : Int} (h : (Lit.int .u64 n).wf = true) : ∃ m : Nat, n = m ∧ m < 18446744073709551616 := by
  have b := bounds_u64 h
  exact ⟨n.toNat, by omega, by omega⟩
/-- a list of texts that came in -/
theorem IsStrs.open12 {w : World} {a : Option Addr} {len cap : Nat} {ss : List ByteArray} (h : IsStrs w a len cap ss) : ∃ f : Nat → ByteArray, len ≤ maxLen ∧ (∀ j, j < len → (f j).size ≤ maxLen) ∧ RowS w a len f := by
  obtain ⟨l, rfl, hm, hs, hr⟩ := h.row
  exact ⟨_, hm, fun j _ => hs j, hr⟩
end Go.Proofs.YtjmeiifogblmoaaGreatDoor

namespace Go.Proofs.YtjmeiifogblmoaaGreatDoor
open Go.RowKit Go.ChangeShapes Go.WideShapes

/-- one call, as it came in -/
structure Act13 where
  kind : Int
  i : Int
  sa : Option Addr
  sn : Nat
  sc : Nat
  s : Nat → ByteArray
  pa : Option Addr
  pn : Nat
  pc : Nat
  p : Nat → Prt
  ka : Option Addr
  kn : Nat
  kc : Nat
  keep : List Nat
def act13_0 : Act13 := ⟨0, 0, none, 0, 0, fun _ => ByteArray.empty, none, 0, 0, fun _ => Rc.blankP, none, 0, 0, []⟩
/-- its cells -/
def actC (x : Act13) : Array Value := #[.int .i64 x.kind, .int .i64 x.i, .slice x.sa x.sn x.sc, .slice x.pa x.pn x.pc, .slice x.ka x.kn x.kc]
/-- what is known of it -/
structure ActOk (w : World) (x : Act13) : Prop where
  k : (Lit.int .i64 x.kind).wf = true
  i : (Lit.int .i64 x.i).wf = true
  sm : x.sn ≤ maxLen
  ss : ∀ j, j < x.sn → (x.s j).size ≤ maxLen
  sr : RowS w x.sa x.sn x.s
  pm : x.pn ≤ maxLen
  pr : PartsR w x.pa x.pn x.p
  pw : ∀ j, j < x.pn → (Lit.int .i64 (x.p j).col).wf = true ∧ (Lit.int .i64 (x.p j).off).wf = true ∧ (x.p j).data.size ≤ maxLen
  km : x.kn ≤ maxLen
  kl : x.keep.length = x.kn
  kr : RowI .u8 w x.ka x.keep.length (fun j => ((x.keep.getD j 0 : Nat) : Int))
  k8 : ∀ j, x.keep.getD j 0 < 256
  kb : 0 < x.keep.length → ∀ y, x.ka = some y → y.block < w.heap.size
/-- where it lies -/
structure ActAt13 (w : World) (b o : Nat) (x : Act13) : Prop where
  c0 : w.cell? ⟨b, o, none⟩ = some (.int .i64 x.kind)
  c1 : w.cell? ⟨b, o + 1, none⟩ = some (.int .i64 x.i)
  c2 : w.cell? ⟨b, o + 2, none⟩ = some (.slice x.sa x.sn x.sc)
  c3 : w.cell? ⟨b, o + 3, none⟩ = some (.slice x.pa x.pn x.pc)
  c4 : w.cell? ⟨b, o + 4, none⟩ = some (.slice x.ka x.kn x.kc)
  ok : ActOk w x
section
variable {H : Type} {enc : TypeId × Value → H} {w : World} {base : Nat} {spare : Nat → Bool} {held : Bool}
theorem acts13_type : ∃ f0 f1 f2 f3 f4 : Field, Tryz.prog.underlying 46 = some (.struct #[f0, f1, f2, f3, f4]) ∧ (f0.type = 3 ∧ f0.offset = 0) ∧ (f1.type = 3 ∧ f1.offset = 1) ∧ (f2.type = 42 ∧ f2.offset = 2) ∧ (f3.type = 43 ∧ f3.offset = 3) ∧ (f4.type = 44 ∧ f4.offset = 4) :=
  ⟨_, _, _, _, _, Tryz.underlying46, ⟨rfl, rfl⟩, ⟨rfl, rfl⟩, ⟨rfl, rfl⟩, ⟨rfl, rfl⟩, ⟨rfl, rfl⟩⟩
theorem acts13_cells : Tryz.prog.cellsOf 3 = 1 ∧ Tryz.prog.cellsOf 42 = 1 ∧ Tryz.prog.cellsOf 43 = 1 ∧ Tryz.prog.cellsOf 44 = 1 ∧ Tryz.prog.cellsOf 46 = 5 := by
  refine ⟨?_, ?_, ?_, ?_, ?_⟩ <;> kernel_rfl
theorem list5_13 {α : Type} {l : List α} (h : l.length = 5) : ∃ a b c d e, l = [a, b, c, d, e] := by
  match l, h with
  | [a, b, c, d, e], _ => exact ⟨a, b, c, d, e, rfl⟩
theorem open_act13 {fuel : Nat} {cs : List Value} {y : DataW H × List MemPlace} (h : DataW.trod enc Tryz.prog w base (fun _ => true) held fuel 46 cs = some y) :
    ∃ x : Act13, cs = [.int .i64 x.kind, .int .i64 x.i, .slice x.sa x.sn x.sc, .slice x.pa x.pn x.pc, .slice x.ka x.kn x.kc] ∧ ActOk w x := by
  obtain ⟨f0, f1, f2, f3, f4, ht, ⟨t0, o0⟩, ⟨t1, o1⟩, ⟨t2, o2⟩, ⟨t3, o3⟩, ⟨t4, o4⟩⟩ := acts13_type
  obtain ⟨e0, e1, e2, e3, e4⟩ := acts13_cells
  obtain ⟨xs, n, _, rfl, hl, hlen, hf⟩ := DataW.trod_struct ht h
  obtain ⟨v0, v1, v2, v3, v4, rfl⟩ := list5_13 (hl.trans e4)
  obtain ⟨y0, y1, y2, y3, y4, rfl⟩ := list5_13 hlen
  have h0 := hf 0 f0 rfl
  have h1 := hf 1 f1 rfl
  have h2 := hf 2 f2 rfl
  have h3 := hf 3 f3 rfl
  have h4 := hf 4 f4 rfl
  rw [t0, o0, e0] at h0
  rw [t1, o1, e0] at h1
  rw [t2, o2, e1] at h2
  rw [t3, o3, e2] at h3
  rw [t4, o4, e3] at h4
  simp only [List.drop_succ_cons, List.drop_zero, List.take_succ_cons, List.take_zero, List.getElem?_cons_zero, List.getElem?_cons_succ] at h0 h1 h2 h3 h4
  obtain ⟨kind, q0, _, w0⟩ := DataW.trod_int Tryz.underlying3 h0
  obtain ⟨i, q1, _, w1⟩ := DataW.trod_int Tryz.underlying3 h1
  cases q0; cases q1
  have hstr : ∃ (a : Option Addr) (m cap : Nat) (zs : List ByteArray), v2 = .slice a m cap ∧ IsStrs w a m cap zs := by
    rcases open_strings Tryz.underlying42 Tryz.underlying9 (by kernel_rfl) h2 with ⟨hcs, _⟩ | ⟨x, l, c, zs, hcs, _, hl', hm, hz, _, hcell, hwz⟩
    · cases hcs; exact ⟨none, 0, 0, [], rfl, .inl ⟨rfl, rfl, rfl, rfl⟩⟩
    · cases hcs; exact ⟨some x, l, c, zs, rfl, .inr ⟨_, rfl, hl', hm, by simpa using hz, hcell, hwz⟩⟩
  obtain ⟨sa, sn, sc, zs, rfl, hstr⟩ := hstr
  obtain ⟨s, sm, ss, sr⟩ := hstr.open12
  obtain ⟨pa, pn, pc, p, q3, pm, _, pr, pw⟩ := open_parts h3
  cases q3
  have hrow : ∃ (a : Option Addr) (m cap : Nat) (zs : List Int), v4 = .slice a m cap ∧ IsRow .u8 w a m cap zs := by
    rcases open_ints Tryz.underlying44 Tryz.underlying5 (by kernel_rfl) h4 with ⟨hcs, _⟩ | ⟨x, l, c, zs, hcs, _, hl', hm, hz, _, hcell, hwz⟩
    · cases hcs; exact ⟨none, 0, 0, [], rfl, .inl ⟨rfl, rfl, rfl, rfl⟩⟩
    · cases hcs; exact ⟨some x, l, c, zs, rfl, .inr ⟨_, rfl, hl', hm, by simpa using hz, hcell, hwz⟩⟩
  obtain ⟨ka, kn, kc, zk, rfl, hr⟩ := hrow
  obtain ⟨l, hll, hm, h8, hri⟩ := hr.rowN 256 (by decide) (fun y hy => by have := bounds_u8 hy; omega)
  refine ⟨⟨kind, i, sa, sn, sc, s, pa, pn, pc, p, ka, kn, kc, l⟩, rfl, w0, w1, sm, ss, sr, pm, pr, pw, by show kn ≤ maxLen; omega, hll, hri, h8, fun h0 y hy => ?_⟩
  obtain ⟨b, off, hab, hc⟩ := hri 0 h0
  have hy' : ka = some y := hy
  rw [hab] at hy'; cases hy'
  exact World.block_lt_of_cell? w _ hc
theorem open_acts13 {fuel : Nat} {cs : List Value} {x : DataW H × List MemPlace} (h : DataW.trod enc Tryz.prog w base (fun _ => true) held fuel 23 cs = some x) :
    ∃ (a : Option Addr) (len cap : Nat) (f : Nat → Act13), cs = [.slice a len cap] ∧ len ≤ maxLen ∧ (0 < len → ∃ b off, a = some ⟨b, off, none⟩ ∧ ∀ j, j < len → ActAt13 w b (off + j * 5) (f j)) := by
  rcases DataW.trod_slice Tryz.underlying23 h with ⟨rfl, _⟩ | ⟨⟨b, off, spot⟩, len, cap, elems, rest, n, _, rfl, _, _, hl, hm, hlen, hel, _⟩
  · exact ⟨none, 0, 0, fun _ => act13_0, rfl, Nat.zero_le _, fun h => absurd h (Nat.lt_irrefl _)⟩
  obtain ⟨_, _, _, _, e4⟩ := acts13_cells
  rw [e4] at hel
  by_cases hpos : 0 < len
  case neg => exact ⟨_, len, cap, fun _ => act13_0, rfl, by omega, fun h => absurd h hpos⟩
  have hsp : spot = none := by
    have h1 := hel 0 hpos
    rw [List.getElem?_eq_getElem (by omega), Option.bind_eq_some_iff] at h1
    obtain ⟨cs, hcs, hy⟩ := h1
    obtain ⟨_, rfl, _⟩ := open_act13 hy
    have h0 := World.cell?_spot ((World.cells?_some hcs).2.2 0 (by omega))
    simpa [Addr.add] using h0
  subst hsp
  have each : ∀ j, j < len → ∃ r : Act13, ActAt13 w b (off + j * 5) r := by
    intro j hj
    have h1 := hel j hj
    rw [List.getElem?_eq_getElem (by omega), Option.bind_eq_some_iff] at h1
    obtain ⟨cs, hcs, hy⟩ := h1
    obtain ⟨x, rfl, hok⟩ := open_act13 hy
    have hc := (World.cells?_some hcs).2.2
    have hadd : ∀ q, ((⟨b, off, none⟩ : Addr).add (j * 5)).add q = ⟨b, off + j * 5 + q, none⟩ := fun q => by
      unfold Addr.add
      split <;> split <;> simp_all
    exact ⟨x, ⟨by have := hc 0 (by omega); rw [hadd] at this; exact this, by have := hc 1 (by omega); rw [hadd] at this; exact this, by have := hc 2 (by omega); rw [hadd] at this; exact this, by have := hc 3 (by omega); rw [hadd] at this; exact this, by have := hc 4 (by omega); rw [hadd] at this; exact this, hok⟩⟩
  refine ⟨some ⟨b, off, none⟩, len, cap, fun j => if hj : j < len then (each j hj).choose else act13_0, rfl, by omega, fun _ => ⟨b, off, rfl, fun j hj => ?_⟩⟩
  show ActAt13 w b (off + j * 5) (if hj : j < len then (each j hj).choose else act13_0)
  rw [dif_pos hj]
  exact (each j hj).choose_spec
end
end Go.Proofs.YtjmeiifogblmoaaGreatDoor
