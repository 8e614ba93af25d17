/- Small laws of my own that the walks want: bits of non-negative ints, endings that agree by their numbers. -/
import Derived.Test.YtlkbdhejfmljlaaDoorRows
import Derived.WalkKit
import Derived.WalkSpells
import Derived.WalkLawsBesides
import Derived.Laws.BitsAllLaws
import Derived.Laws.IdiomStrings
import Derived.Deep.OwnRows
namespace Go.Proofs.YtlkbdhejfmljlaaDoor
open Go.RowKit

theorem ofInt_i64 (a : Nat) (ha : a < 9223372036854775808) : (BitVec.ofInt 64 (a : Int)).toNat = a := by
  rw [BitVec.toNat_ofInt]; omega
theorem i64_and_nat (a b : Nat) (ha : a < 9223372036854775808) (hb : b < 9223372036854775808) : bits .and .i64 (a : Int) (b : Int) = ((a &&& b : Nat) : Int) := by
  have h : a &&& b < 2 ^ 63 := Nat.and_lt_two_pow _ hb
  have e : (BitVec.ofInt 64 (a : Int) &&& BitVec.ofInt 64 (b : Int)).toNat = a &&& b := by rw [BitVec.toNat_and, ofInt_i64 a ha, ofInt_i64 b hb]
  show IntKind.i64.wrap ((BitVec.ofInt 64 (a : Int) &&& BitVec.ofInt 64 (b : Int)).toNat : Int) = _
  rw [e, IntKind.wrap_i64]; omega
theorem i64_xor_nat (a b : Nat) (ha : a < 9223372036854775808) (hb : b < 9223372036854775808) : bits .xor .i64 (a : Int) (b : Int) = ((a ^^^ b : Nat) : Int) := by
  have h : a ^^^ b < 2 ^ 63 := Nat.xor_lt_two_pow ha hb
  have e : (BitVec.ofInt 64 (a : Int) ^^^ BitVec.ofInt 64 (b : Int)).toNat = a ^^^ b := by rw [BitVec.toNat_xor, ofInt_i64 a ha, ofInt_i64 b hb]
  show IntKind.i64.wrap ((BitVec.ofInt 64 (a : Int) ^^^ BitVec.ofInt 64 (b : Int)).toNat : Int) = _
  rw [e, IntKind.wrap_i64]; omega

/-- two numbers are one: in the walk's form -/
theorem beq_cast {a b : Nat} (h : a = b) : ((a : Int) == (b : Int)) = true := by rw [h]; simp
theorem bne_cast {a b : Nat} (h : a ≠ b) : ((a : Int) == (b : Int)) = false := by rw [beq_eq_false_iff_ne]; omega
theorem ret_int {k : IntKind} {a b : Int} (h : a = b) : Ending.returned (.int k a) = .returned (.int k b) := by rw [h]
theorem ret_bool {a b : Bool} (h : a = b) : Ending.returned (.bool a) = .returned (.bool b) := by rw [h]
theorem ret_two {a b c d : Value} (h : a = b) (g : c = d) : Ending.returned (.tuple #[a, c]) = .returned (.tuple #[b, d]) := by rw [h, g]
theorem ret_string {a b : ByteArray} (h : a = b) : Ending.returned (.string a) = .returned (.string b) := by rw [h]

/-- The first cells of block g are the bytes l, and may be written. -/
def rowU (w : World) (g : Nat) (l : List UInt8) : Prop :=
  ∀ j, j < l.length → w.cell? ⟨g, j, none⟩ = some (.int .u8 ((l.getD j 0).toNat : Int)) ∧ w.frozen? ⟨g, j, none⟩ = false
theorem rowU.drew {w : World} {g : Nat} {l : List UInt8} (h : rowU w g l) : rowU w.drew g l := h
theorem rowU.below {B : Nat} {w w' : World} {g : Nat} {l : List UInt8} (h : rowU w g l) (hb : Below B w w') (hg : g < B) : rowU w' g l := fun j hj => by
  rw [hb.cell (p := ⟨g, j, none⟩) hg, hb.frozen (p := ⟨g, j, none⟩) hg]; exact h j hj
theorem rowU_conv (w : World) (s : ByteArray) (e : TypeId) (cap : Nat) (hc : s.size ≤ cap) :
    rowU (w.alloc (.cells (bytesRow s cap) e ((bytesRow s cap).size, (bytesRow s cap).size + 1))) w.heap.size s.data.toList := by
  intro j hj
  have hj' : j < s.data.size := by simpa using hj
  have hsz : s.data.size = s.size := rfl
  have hlen : (bytesRow s cap).size = cap := by unfold bytesRow; simp; omega
  constructor
  · rw [World.cell?_alloc_mark, bytesRow_at s cap j hj']
    simp [List.getElem?_eq_getElem hj]
  · rw [World.frozen?_alloc_mark, hlen]
    have : ¬ cap ≤ j := by omega
    simp [this]
theorem rowU.set {w : World} {g : Nat} {l : List UInt8} (h : rowU w g l) (k : Nat) (_hk : k < l.length) (v : UInt8) :
    rowU (w.setCell ⟨g, k, none⟩ (.int .u8 (v.toNat : Int))) g (l.set k v) := by
  intro j hj
  rw [List.length_set] at hj
  obtain ⟨h1, h2⟩ := h j hj
  refine ⟨?_, by rw [World.frozen?_setCell]; exact h2⟩
  by_cases e : j = k
  · subst e
    rw [World.cell?_setCell_same _ _ _ h1]
    simp [hj]
  · rw [World.cell?_setCell_other _ _ _ _ (fun q => e (by injection q with _ q2; exact q2.symm)), h1]
    simp [Ne.symm e]
/-- 'string(b)' of such a row. -/
theorem rowU.back {P : Program} {w : World} {g : Nat} {l : List UInt8} (h : rowU w g l) (src dst e : TypeId) (n cap : Nat) (hn : l.length = n)
    (hs : P.underlying src = some (.slice e)) (he : P.underlying e = some (.int .u8)) (hd : P.underlying dst = some .string) :
    (convert src dst (.slice (some ⟨g, 0, none⟩) n cap)).run P w = .ok (.string ⟨l.toArray⟩) w := by
  subst hn
  refine run_convert_bytes_back w src dst e ⟨g, 0, none⟩ cap l hs he hd fun j hj => ?_
  have hadd : (⟨g, 0, none⟩ : Addr).add j = ⟨g, j, none⟩ := by unfold Addr.add; split <;> simp_all
  rw [hadd, (h j hj).1]
  simp [List.getElem?_eq_getElem hj]
/-- What 'make([]byte, n)' lays. -/
theorem rowU_made (w : World) (n : Nat) (e : TypeId) : rowU (w.alloc (.cells (madeCells #[.int .u8 0] n) e)) w.heap.size (List.replicate n 0) := by
  intro j hj
  rw [List.length_replicate] at hj
  obtain ⟨c, hc, hs, hf⟩ := World.rowIs_made w (.int .u8 0) n e
  constructor
  · have h0 : (List.replicate n (0 : UInt8)).getD j 0 = 0 := by simp [hj]
    rw [h0, World.cell?_alloc_mark]
    simp [madeCells, hj, Nat.mod_one]
  · rw [World.frozen?_alloc_mark]; simp
/-- bytes as a slice's cells -/
def byteVals (l : List UInt8) : List Value := l.map fun x => .int .u8 (x.toNat : Int)
theorem byteVals_snoc (l : List UInt8) (x : UInt8) : byteVals l ++ [.int .u8 (x.toNat : Int)] = byteVals (l ++ [x]) := by unfold byteVals; simp
theorem byteVals_length (l : List UInt8) : (byteVals l).length = l.length := by unfold byteVals; simp
/-- 'string(out)' of a slice that the call has appended to. -/
theorem ownsBytes_back {P : Program} {w : World} {base t n : Nat} {v : Value} {l : List UInt8} (h : w.ownsRow base t 1 v n (byteVals l)) (src dst e : TypeId)
    (hs : P.underlying src = some (.slice e)) (he : P.underlying e = some (.int .u8)) (hd : P.underlying dst = some .string) :
    (convert src dst v).run P w = .ok (.string ⟨l.toArray⟩) w := by
  have hn : l.length = n := by have := h.1; rw [byteVals_length] at this; omega
  subst hn
  rcases h.2 with ⟨rfl, h0⟩ | ⟨g, cap, cur, rfl, hb, hg, rest⟩
  · have hl : l = [] := List.length_eq_zero_iff.1 h0
    subst hl
    rw [List.length_nil] at *
    rw [run_convert_bytes_string w src dst e none 0 0 hs he hd]
    simp [Conv.bytesToString]
    rfl
  · refine run_convert_bytes_back w src dst e ⟨g, 0, none⟩ cap l hs he hd fun j hj => ?_
    refine h.cells rfl j _ ?_
    unfold byteVals
    simp [List.getElem?_eq_getElem hj]
/-- calls one behind the other -/
theorem below2 {a b c : World} (h1 : Below a.heap.size a b) (h2 : Below b.heap.size b c) : Below a.heap.size a c := h1.trans (h2.mono h1.size)
theorem below4 {a b c d e : World} (h1 : Below a.heap.size a b) (h2 : Below b.heap.size b c) (h3 : Below c.heap.size c d) (h4 : Below d.heap.size d e) : Below a.heap.size a e :=
  below2 (below2 (below2 h1 h2) h3) h4
/-- The first n cells of block g hold what f says, and may be written. -/
def rowV (w : World) (g n : Nat) (f : Nat → Value) : Prop :=
  ∀ j, j < n → w.cell? ⟨g, j, none⟩ = some (f j) ∧ w.frozen? ⟨g, j, none⟩ = false
theorem rowV.drew {w : World} {g n : Nat} {f : Nat → Value} (h : rowV w g n f) : rowV w.drew g n f := h
theorem rowV.below {B : Nat} {w w' : World} {g n : Nat} {f : Nat → Value} (h : rowV w g n f) (hb : Below B w w') (hg : g < B) : rowV w' g n f := fun j hj => by
  rw [hb.cell (p := ⟨g, j, none⟩) hg, hb.frozen (p := ⟨g, j, none⟩) hg]; exact h j hj
theorem rowV.mono {w : World} {g n : Nat} {f f' : Nat → Value} (h : rowV w g n f) (e : ∀ j, j < n → f j = f' j) : rowV w g n f' := fun j hj => by
  rw [← e j hj]; exact h j hj
theorem rowV.set {w : World} {g n : Nat} {f : Nat → Value} (h : rowV w g n f) (k : Nat) (v : Value) :
    rowV (w.setCell ⟨g, k, none⟩ v) g n (fun j => if j = k then v else f j) := by
  intro j hj
  obtain ⟨h1, h2⟩ := h j hj
  refine ⟨?_, by rw [World.frozen?_setCell]; exact h2⟩
  by_cases e : j = k
  · subst e
    rw [World.cell?_setCell_same _ _ _ h1]; simp
  · rw [World.cell?_setCell_other _ _ _ _ (fun q => e (by injection q with _ q2; exact q2.symm)), h1]
    simp [e]
theorem rowV_new (w : World) (C : Array Value) (t : TypeId) (f : Nat → Value) (h : ∀ j, j < C.size → C[j]? = some (f j)) : rowV (w.alloc (.cells C t)) w.heap.size C.size f := by
  intro j hj
  rw [World.cell?_alloc_mark, World.frozen?_alloc_mark]
  exact ⟨h j hj, by simp⟩
/-- a text's length, for a loop's measure -/
def strLen : Value → Nat
  | .string t => t.size
  | _ => 0
theorem strLen_string (t : ByteArray) : strLen (.string t) = t.size := rfl
end Go.Proofs.YtlkbdhejfmljlaaDoor
