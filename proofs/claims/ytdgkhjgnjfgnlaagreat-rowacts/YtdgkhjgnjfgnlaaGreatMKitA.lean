import Derived.Test.YtdgkhjgnjfgnlaaGreatRows
import Derived.WalkKit
import Derived.WalkSpells
import Derived.WalkLawsBesides
import Derived.Laws.BitsAllLaws
import Derived.Laws.IdiomStrings
import Derived.Deep.OwnRows
import Derived.Laws.AppendOwn
import Derived.Maps.OwnSet
import Derived.Maps.AppendAt
import Derived.Maps.RangeWalk
import Derived.Deep.MidRow
namespace Go.Proofs.YtdgkhjgnjfgnlaaGreat
open Go.RowKit
theorem ofInt_i64 (a : Nat) (ha : a < 9223372036854775808) : (BitVec.ofInt 64 (a : Int)).toNat = a := by
 rw [BitVec.toNat_ofInt]; omega
theorem i64_and_nat (a b : Nat) (ha : a < 9223372036854775808) (hb : b < 9223372036854775808) : bits .and .i64 (a : Int) (b : Int) = ((a &&& b : Nat) : Int) := by
 have h : a &&& b < 2 ^ 63 := Nat.and_lt_two_pow _ hb
 have e : (BitVec.ofInt 64 (a : Int) &&& BitVec.ofInt 64 (b : Int)).toNat = a &&& b := by rw [BitVec.toNat_and, ofInt_i64 a ha, ofInt_i64 b hb]
 show IntKind.i64.wrap ((BitVec.ofInt 64 (a : Int) &&& BitVec.ofInt 64 (b : Int)).toNat : Int) = _
 rw [e, IntKind.wrap_i64]; omega
theorem i64_xor_nat (a b : Nat) (ha : a < 9223372036854775808) (hb : b < 9223372036854775808) : bits .xor .i64 (a : Int) (b : Int) = ((a ^^^ b : Nat) : Int) := by
 have h : a ^^^ b < 2 ^ 63 := Nat.xor_lt_two_pow ha hb
 have e : (BitVec.ofInt 64 (a : Int) ^^^ BitVec.ofInt 64 (b : Int)).toNat = a ^^^ b := by rw [BitVec.toNat_xor, ofInt_i64 a ha, ofInt_i64 b hb]
 show IntKind.i64.wrap ((BitVec.ofInt 64 (a : Int) ^^^ BitVec.ofInt 64 (b : Int)).toNat : Int) = _
 rw [e, IntKind.wrap_i64]; omega
theorem ret_int {k : IntKind} {a b : Int} (h : a = b) : Ending.returned (.int k a) = .returned (.int k b) := by rw [h]
theorem ret_bool {a b : Bool} (h : a = b) : Ending.returned (.bool a) = .returned (.bool b) := by rw [h]
theorem ret_two {a b c d : Value} (h : a = b) (g : c = d) : Ending.returned (.tuple #[a, c]) = .returned (.tuple #[b, d]) := by rw [h, g]
theorem ret_string {a b : ByteArray} (h : a = b) : Ending.returned (.string a) = .returned (.string b) := by rw [h]
def rowU (w : World) (g : Nat) (l : List UInt8) : Prop :=
 ∀ j, j < l.length → w.cell? ⟨g, j, none⟩ = some (.int .u8 ((l.getD j 0).toNat : Int)) ∧ w.frozen? ⟨g, j, none⟩ = false
theorem rowU.drew {w : World} {g : Nat} {l : List UInt8} (h : rowU w g l) : rowU w.drew g l := h
theorem rowU.below {B : Nat} {w w' : World} {g : Nat} {l : List UInt8} (h : rowU w g l) (hb : Below B w w') (hg : g < B) : rowU w' g l := fun j hj => by
 rw [hb.cell (p := ⟨g, j, none⟩) hg, hb.frozen (p := ⟨g, j, none⟩) hg]; exact h j hj
theorem rowU_conv (w : World) (s : ByteArray) (e : TypeId) (cap : Nat) (hc : s.size ≤ cap) :
  rowU (w.alloc (.cells (bytesRow s cap) e ((bytesRow s cap).size, (bytesRow s cap).size + 1))) w.heap.size s.data.toList := by
 intro j hj
 have hj' : j < s.data.size := by simpa using hj
 have hsz : s.data.size = s.size := rfl
 have hlen : (bytesRow s cap).size = cap := by unfold bytesRow; simp; omega
 constructor
 ·rw [World.cell?_alloc_mark, bytesRow_at s cap j hj']
  simp [List.getElem?_eq_getElem hj]
 ·rw [World.frozen?_alloc_mark, hlen]
  have : ¬ cap ≤ j := by omega
  simp [this]
theorem rowU.set {w : World} {g : Nat} {l : List UInt8} (h : rowU w g l) (k : Nat) (_hk : k < l.length) (v : UInt8) :
  rowU (w.setCell ⟨g, k, none⟩ (.int .u8 (v.toNat : Int))) g (l.set k v) := by
 intro j hj
 rw [List.length_set] at hj
 obtain ⟨h1, h2⟩ := h j hj
 refine ⟨?_, by rw [World.frozen?_setCell]; exact h2⟩
 by_cases e : j = k
 ·subst e
  rw [World.cell?_setCell_same _ _ _ h1]
  simp [hj]
 ·rw [World.cell?_setCell_other _ _ _ _ (fun q => e (by injection q with _ q2; exact q2.symm)), h1]
  simp [Ne.symm e]
theorem rowU.back {P : Program} {w : World} {g : Nat} {l : List UInt8} (h : rowU w g l) (src dst e : TypeId) (n cap : Nat) (hn : l.length = n)
  (hs : P.underlying src = some (.slice e)) (he : P.underlying e = some (.int .u8)) (hd : P.underlying dst = some .string) :
  (convert src dst (.slice (some ⟨g, 0, none⟩) n cap)).run P w = .ok (.string ⟨l.toArray⟩) w := by
 subst hn
 refine run_convert_bytes_back w src dst e ⟨g, 0, none⟩ cap l hs he hd fun j hj => ?_
 have hadd : (⟨g, 0, none⟩ : Addr).add j = ⟨g, j, none⟩ := by unfold Addr.add; split <;> simp_all
 rw [hadd, (h j hj).1]
 simp [List.getElem?_eq_getElem hj]
theorem rowU_made (w : World) (n : Nat) (e : TypeId) : rowU (w.alloc (.cells (madeCells #[.int .u8 0] n) e)) w.heap.size (List.replicate n 0) := by
 intro j hj
 rw [List.length_replicate] at hj
 obtain ⟨c, hc, hs, hf⟩ := World.rowIs_made w (.int .u8 0) n e
 constructor
 ·have h0 : (List.replicate n (0 : UInt8)).getD j 0 = 0 := by simp [hj]
  rw [h0, World.cell?_alloc_mark]
  simp [madeCells, hj, Nat.mod_one]
 ·rw [World.frozen?_alloc_mark]; simp
theorem info_u8 : (Tryz.prog.info? 5).map (fun i => (i.zero, i.size, i.bytes)) = some (some (.int .u8 0), 1, 1) := by kernel_rfl
theorem run_make_u8 (n : Nat) (h : n ≤ 281474976710656) (w : World) :
  (Instr.makeSlice 109 (.int .i64 (n : Int)) (.int .i64 (n : Int))).run Tryz.prog w = .ok (.slice (some ⟨w.heap.size, 0, none⟩) n n) (w.alloc (.cells (madeCells #[.int .u8 0] n) 5)) :=
 run_make_row' (P := Tryz.prog) 109 5 (.int .u8 0) 1 Tryz.underlying109 info_u8 rfl .i64 .i64 n (by omega) (by omega) w
def byteVals (l : List UInt8) : List Value := l.map fun x => .int .u8 (x.toNat : Int)
theorem byteVals_snoc (l : List UInt8) (x : UInt8) : byteVals l ++ [.int .u8 (x.toNat : Int)] = byteVals (l ++ [x]) := by unfold byteVals; simp
theorem byteVals_length (l : List UInt8) : (byteVals l).length = l.length := by unfold byteVals; simp
theorem ownsBytes_back {P : Program} {w : World} {base t n : Nat} {v : Value} {l : List UInt8} (h : w.ownsRow base t 1 v n (byteVals l)) (src dst e : TypeId)
  (hs : P.underlying src = some (.slice e)) (he : P.underlying e = some (.int .u8)) (hd : P.underlying dst = some .string) :
  (convert src dst v).run P w = .ok (.string ⟨l.toArray⟩) w := by
 have hn : l.length = n := by have := h.1; rw [byteVals_length] at this; omega
 subst hn
 rcases h.2 with ⟨rfl, h0⟩ | ⟨g, cap, cur, rfl, hb, hg, rest⟩
 ·have hl : l = [] := List.length_eq_zero_iff.1 h0
  subst hl
  rw [List.length_nil] at *
  rw [run_convert_bytes_string w src dst e none 0 0 hs he hd]
  simp [Conv.bytesToString]
  rfl
 ·refine run_convert_bytes_back w src dst e ⟨g, 0, none⟩ cap l hs he hd fun j hj => ?_
  refine h.cells rfl j _ ?_
  unfold byteVals
  simp [List.getElem?_eq_getElem hj]
theorem below2 {a b c : World} (h1 : Below a.heap.size a b) (h2 : Below b.heap.size b c) : Below a.heap.size a c := h1.trans (h2.mono h1.size)
theorem below4 {a b c d e : World} (h1 : Below a.heap.size a b) (h2 : Below b.heap.size b c) (h3 : Below c.heap.size c d) (h4 : Below d.heap.size d e) : Below a.heap.size a e :=
 below2 (below2 (below2 h1 h2) h3) h4
def rowV (w : World) (g n : Nat) (f : Nat → Value) : Prop :=
 ∀ j, j < n → w.cell? ⟨g, j, none⟩ = some (f j) ∧ w.frozen? ⟨g, j, none⟩ = false
theorem rowV.drew {w : World} {g n : Nat} {f : Nat → Value} (h : rowV w g n f) : rowV w.drew g n f := h
theorem rowV.below {B : Nat} {w w' : World} {g n : Nat} {f : Nat → Value} (h : rowV w g n f) (hb : Below B w w') (hg : g < B) : rowV w' g n f := fun j hj => by
 rw [hb.cell (p := ⟨g, j, none⟩) hg, hb.frozen (p := ⟨g, j, none⟩) hg]; exact h j hj
theorem rowV.mono {w : World} {g n : Nat} {f f' : Nat → Value} (h : rowV w g n f) (e : ∀ j, j < n → f j = f' j) : rowV w g n f' := fun j hj => by
 rw [← e j hj]; exact h j hj
theorem rowV.set {w : World} {g n : Nat} {f : Nat → Value} (h : rowV w g n f) (k : Nat) (v : Value) :
  rowV (w.setCell ⟨g, k, none⟩ v) g n (fun j => if j = k then v else f j) := by
 intro j hj
 obtain ⟨h1, h2⟩ := h j hj
 refine ⟨?_, by rw [World.frozen?_setCell]; exact h2⟩
 by_cases e : j = k
 ·subst e
  rw [World.cell?_setCell_same _ _ _ h1]; simp
 ·rw [World.cell?_setCell_other _ _ _ _ (fun q => e (by injection q with _ q2; exact q2.symm)), h1]
  simp [e]
theorem rowV_new (w : World) (C : Array Value) (t : TypeId) (f : Nat → Value) (h : ∀ j, j < C.size → C[j]? = some (f j)) : rowV (w.alloc (.cells C t)) w.heap.size C.size f := by
 intro j hj
 rw [World.cell?_alloc_mark, World.frozen?_alloc_mark]
 exact ⟨h j hj, by simp⟩
def strLen : Value → Nat
 | .string t => t.size
 | _ => 0
end Go.Proofs.YtdgkhjgnjfgnlaaGreat
namespace Go.Proofs.YtdgkhjgnjfgnlaaGreat
open Go.RowKit
def IsRow (k : IntKind) (w : World) (a : Option Addr) (len cap : Nat) (zs : List Int) : Prop :=
 (a = none ∧ len = 0 ∧ cap = 0 ∧ zs = []) ∨
 ∃ x, a = some x ∧ len ≤ cap ∧ cap ≤ maxLen ∧ zs.length = cap ∧ (∀ i, i < zs.length → w.cell? (x.add i) = some (.int k (zs.getD i 0))) ∧ ∀ n ∈ zs, (Lit.int k n).wf = true
def RowI (k : IntKind) (w : World) (a : Option Addr) (n : Nat) (f : Nat → Int) : Prop :=
 ∀ j, j < n → ∃ b off, a = some ⟨b, off, none⟩ ∧ w.cell? ⟨b, off + j, none⟩ = some (.int k (f j))
theorem RowI.nil (k : IntKind) (w : World) (a : Option Addr) (f : Nat → Int) : RowI k w a 0 f := fun _ h => absurd h (Nat.not_lt_zero _)
theorem RowI.mono {k : IntKind} {w : World} {a : Option Addr} {n m : Nat} {f g : Nat → Int} (h : RowI k w a n f) (hm : m ≤ n) (hf : ∀ j, j < m → f j = g j) : RowI k w a m g := fun j hj => by
 rw [← hf j hj]; exact h j (by omega)
theorem IsRow.wf {k : IntKind} {w : World} {a : Option Addr} {len cap : Nat} {zs : List Int} (h : IsRow k w a len cap zs) : ∀ n ∈ zs.take len, (Lit.int k n).wf = true := by
 intro n hn
 rcases h with ⟨_, _, _, rfl⟩ | ⟨_, _, _, _, _, _, hw⟩
 ·simp at hn
 ·exact hw n (List.mem_of_mem_take hn)
theorem IsRow.len {k : IntKind} {w : World} {a : Option Addr} {len cap : Nat} {zs : List Int} (h : IsRow k w a len cap zs) : len ≤ zs.length ∧ len ≤ maxLen := by
 rcases h with ⟨_, rfl, _, rfl⟩ | ⟨_, _, hl, hm, hz, _⟩
 ·exact ⟨Nat.le_refl _, Nat.zero_le _⟩
 ·exact ⟨by omega, by omega⟩
theorem RowI.below {k : IntKind} {w w' : World} {a : Option Addr} {n : Nat} {f : Nat → Int} (h : RowI k w a n f) (hb : Below w.heap.size w w') : RowI k w' a n f := by
 intro j hj
 obtain ⟨b, off, ha, hc⟩ := h j hj
 exact ⟨b, off, ha, (hb.cell (p := ⟨b, off + j, none⟩) (World.block_lt_of_cell? w _ hc)).trans hc⟩
theorem RowI.new (k : IntKind) (w : World) (l : List Int) (C : Array Value) (t : TypeId) (hC : C.toList = l.map (Value.int k)) : RowI k (w.alloc (.cells C t)) (some ⟨w.heap.size, 0, none⟩) l.length (fun j => l.getD j 0) := by
 intro j hj
 refine ⟨w.heap.size, 0, rfl, ?_⟩
 rw [World.cell?_alloc_mark, Nat.zero_add]
 have : C[j]? = C.toList[j]? := by simp
 rw [this, hC]; simp [hj]
theorem natCast_getD (l : List Nat) (j : Nat) : (l.map (fun n : Nat => (n : Int))).getD j 0 = ((l.getD j 0 : Nat) : Int) := by
 simp only [List.getD_eq_getElem?_getD, List.getElem?_map]
 cases l[j]? <;> rfl
theorem RowI.of_owns {k : IntKind} {w : World} {base t n : Nat} {v : Value} {l : List Int} (h : w.ownsRow base t 1 v n (l.map (Value.int k))) : ∃ a cap, v = .slice a n cap ∧ RowI k w a n (fun j => l.getD j 0) ∧ (∀ x, a = some x → base ≤ x.block) := by
 have hn : l.length = n := by have := h.1; rw [List.length_map] at this; omega
 rcases h.2 with ⟨rfl, h0⟩ | ⟨g, cap, cur, rfl, hb, hg, rest⟩
 ·subst h0; exact ⟨none, 0, rfl, RowI.nil _ _ _ _, fun x h => by cases h⟩
 ·refine ⟨some ⟨g, 0, none⟩, cap, rfl, fun j hj => ⟨g, 0, rfl, ?_⟩, fun x h => by cases h; exact hb⟩
  have hj' : j < l.length := by omega
  have := h.cells (g := g) rfl j (.int k (l.getD j 0)) (by simp [List.getElem?_eq_getElem hj'])
  have hadd : (⟨g, 0, none⟩ : Addr).add j = ⟨g, 0 + j, none⟩ := by unfold Addr.add; split <;> simp_all
  rw [← hadd]; exact this
theorem ownsRow_apart {w : World} {b1 b2 t1 t2 s1 s2 n1 n2 : Nat} {v1 v2 : Value} {l1 l2 : List Value} (h1 : w.ownsRow b1 t1 s1 v1 n1 l1) (h2 : w.ownsRow b2 t2 s2 v2 n2 l2) (ht : t1 ≠ t2) : v1.ownBlock = none ∨ v1.ownBlock ≠ v2.ownBlock := by
 rcases h1.2 with ⟨rfl, _⟩ | ⟨g, cap, cur, rfl, _, hg, _⟩
 ·exact .inl rfl
 ·refine .inr fun e => ?_
  rcases h2.2 with ⟨rfl, _⟩ | ⟨g', cap', cur', rfl, _, hg', _⟩
  ·simp [Value.ownBlock] at e
  ·simp [Value.ownBlock] at e
   subst e
   rw [hg] at hg'
   simp at hg'
   exact ht hg'.2
theorem ownsRow_across {w w1 : World} {b1 b2 t1 t2 s1 s2 n1 n2 : Nat} {v1 v2 : Value} {l1 l2 : List Value} {tmp : Obj} (h2 : w.ownsRow b2 t2 s2 v2 n2 l2) (h1 : w.ownsRow b1 t1 s1 v1 n1 l1) (ht : t2 ≠ t1) (hg : (w.alloc tmp).grownBy w1 v1.ownBlock) : w1.ownsRow b2 t2 s2 v2 n2 l2 :=
 (h2.alloc tmp).kept hg (ownsRow_apart (h2.alloc tmp) (h1.alloc tmp) ht)
theorem ownsRow_below {w w' : World} {b t s n : Nat} {v : Value} {l : List Value} (h : w.ownsRow b t s v n l) (hb : Below w.heap.size w w') : w'.ownsRow b t s v n l := by
 refine ⟨h.1, ?_⟩
 rcases h.2 with hn | ⟨g, cap, cur, rfl, h1, hg, rest⟩
 ·exact .inl hn
 ·exact .inr ⟨g, cap, cur, rfl, h1, (hb.block g (Array.getElem?_eq_some_iff.1 hg).1).trans hg, rest⟩
end Go.Proofs.YtdgkhjgnjfgnlaaGreat
namespace Go.Proofs.YtdgkhjgnjfgnlaaGreat
open Go.RowKit
structure Only (F : Nat → Prop) (w w' : World) : Prop where
 os : w'.os = w.os
 tape : w'.tape = w.tape
 output : w'.output = w.output
 size : w.heap.size ≤ w'.heap.size
 block : ∀ k, k < w.heap.size → ¬ F k → w'.heap[k]? = w.heap[k]?
theorem Only.refl (F : Nat → Prop) (w : World) : Only F w w := ⟨rfl, rfl, rfl, Nat.le_refl _, fun _ _ _ => rfl⟩
def Plus (F : Nat → Prop) (n : Nat) : Nat → Prop := fun k => F k ∨ n ≤ k
theorem Only.trans {F : Nat → Prop} {a b c : World} (h : Only F a b) (k : Only (Plus F a.heap.size) b c) : Only F a c :=
 ⟨k.os.trans h.os, k.tape.trans h.tape, k.output.trans h.output, Nat.le_trans h.size k.size, fun i hi hn =>
  (k.block i (Nat.lt_of_lt_of_le hi h.size) (fun hp => by rcases hp with h1 | h1; exact hn h1; omega)).trans (h.block i hi hn)⟩
theorem Only.mono {F G : Nat → Prop} {a b : World} (h : Only F a b) (hs : ∀ k, F k → G k) : Only G a b :=
 ⟨h.os, h.tape, h.output, h.size, fun i hi hn => h.block i hi (fun hf => hn (hs i hf))⟩
theorem Only.then {F : Nat → Prop} {a b c : World} (h : Only F a b) (k : Only F b c) : Only F a c := h.trans (k.mono fun _ hf => .inl hf)
theorem Only.of_below {w w' : World} (h : Below w.heap.size w w') (F : Nat → Prop) : Only F w w' := ⟨h.os, h.tape, h.output, h.size, fun k hk _ => h.block k hk⟩
theorem Only.below {w w' : World} {F : Nat → Prop} {B : Nat} (h : Only F w w') (hF : ∀ k, F k → B ≤ k) (hB : B ≤ w.heap.size) : Below B w w' := ⟨h.os, h.tape, h.output, h.size, fun k hk => h.block k (by omega) (fun hf => by have := hF k hf; omega)⟩
theorem Only.of_grown {w w' : World} {row : Option Nat} (h : w.grownBy w' row) (F : Nat → Prop) (hF : ∀ k, row = some k → F k) : Only F w w' :=
 ⟨h.os, h.tape, h.output, h.size, fun k hk hn => h.block k hk (fun e => hn (hF k e.symm))⟩
theorem Only.alloc (F : Nat → Prop) (w : World) (o : Obj) : Only F w (w.alloc o) := ⟨rfl, rfl, rfl, by simp, fun k hk _ => Below.heap_alloc w o k hk⟩
theorem Only.drew (F : Nat → Prop) (w : World) : Only F w w.drew := ⟨rfl, rfl, rfl, Nat.le_refl _, fun _ _ _ => rfl⟩
theorem Only.setCell (F : Nat → Prop) (w : World) (a : Addr) (v : Value) (h : F a.block) : Only F w (w.setCell a v) :=
 ⟨rfl, rfl, rfl, by simp [World.setCell], fun k _ hn => heap_setCell_other w a k v (fun e => hn (by rw [e]; exact h))⟩
theorem setCells_os (b : Nat) : ∀ (vs : List Value) (o : Nat) (w : World), (w.setCells b o vs).os = w.os ∧ (w.setCells b o vs).tape = w.tape ∧ (w.setCells b o vs).output = w.output ∧ (w.setCells b o vs).heap.size = w.heap.size ∧ ∀ k, k ≠ b → (w.setCells b o vs).heap[k]? = w.heap[k]?
 | [], _, _ => ⟨rfl, rfl, rfl, rfl, fun _ _ => rfl⟩
 | v :: r, o, w => by
  obtain ⟨h1, h2, h3, h4, h5⟩ := setCells_os b r (o + 1) (w.setCell ⟨b, o, none⟩ v)
  refine ⟨h1, h2, h3, h4.trans (by simp [World.setCell]), fun k hk => (h5 k hk).trans (heap_setCell_other w ⟨b, o, none⟩ k v hk)⟩
theorem Only.setCells (F : Nat → Prop) (w : World) (b o : Nat) (vs : List Value) (h : F b) : Only F w (w.setCells b o vs) := by
 obtain ⟨h1, h2, h3, h4, h5⟩ := setCells_os b vs o w
 exact ⟨h1, h2, h3, by rw [h4]; exact Nat.le_refl _, fun k _ hn => h5 k (fun e => hn (by rw [e]; exact h))⟩
theorem heap_setCells (b : Nat) (t : TypeId) : ∀ (vs : List Value) (o : Nat) (w : World) (cur : Array Value), w.heap[b]? = some (.cells cur t (0, 0)) → o + vs.length ≤ cur.size →
  (w.setCells b o vs).heap[b]? = some (.cells (cur.toList.take o ++ vs ++ cur.toList.drop (o + vs.length)).toArray t (0, 0))
 | [], o, w, cur, h, _ => by
  rw [World.setCells, h]; simp
 | v :: r, o, w, cur, h, hfit => by
  simp only [List.length_cons] at hfit
  have h1 := heap_setCell_same w b o cur t v h
  have ih := heap_setCells b t r (o + 1) _ _ h1 (by simp; omega)
  rw [World.setCells, ih]
  congr 2
  apply Array.ext'
  simp only [Array.toList_setIfInBounds, List.length_cons]
  rw [List.take_set, List.drop_set_of_lt (by omega), List.take_succ_eq_append_getElem (by simp; omega)]
  have hset : ∀ x : Value, (cur.toList.take o ++ [x]).set o v = cur.toList.take o ++ [v] := fun x => by
   have hl : (cur.toList.take o).length = o := by simp; omega
   rw [List.set_append_right _ _ (by omega), hl, Nat.sub_self]; rfl
  rw [hset, show o + 1 + r.length = o + (r.length + 1) by omega]
  simp
def flat (l : List (List UInt8)) : List Value := byteVals l.flatten
theorem flat_nil : flat [] = [] := rfl
theorem flat_cons (s : List UInt8) (l : List (List UInt8)) : flat (s :: l) = byteVals s ++ flat l := by simp [flat, byteVals]
theorem flat_append (l r : List (List UInt8)) : flat (l ++ r) = flat l ++ flat r := by simp [flat, byteVals]
theorem flat_length : ∀ {l : List (List UInt8)}, (∀ s ∈ l, s.length = 64) → (flat l).length = l.length * 64
 | [], _ => rfl
 | s :: l, h => by
  rw [flat_cons, List.length_append, byteVals_length, h s (by simp), flat_length (fun t ht => h t (by simp [ht])), List.length_cons]; omega
theorem flat_at : ∀ {l : List (List UInt8)} {i : Nat}, (∀ s ∈ l, s.length = 64) → i < l.length → ((flat l).drop (i * 64)).take 64 = byteVals (l.getD i [])
 | s :: l, 0, h, _ => by
  rw [flat_cons, Nat.zero_mul, List.drop_zero, List.take_left' (by rw [byteVals_length]; exact h s (by simp))]; rfl
 | s :: l, i + 1, h, hi => by
  have hs : (byteVals s).length = 64 := by rw [byteVals_length]; exact h s (by simp)
  rw [flat_cons, show (i + 1) * 64 = (byteVals s).length + i * 64 by omega, List.drop_append]
  rw [List.drop_of_length_le (by omega), List.nil_append, show (byteVals s).length + i * 64 - (byteVals s).length = i * 64 by omega]
  exact flat_at (fun t ht => h t (by simp [ht])) (by simpa using hi)
theorem flat_set : ∀ {l : List (List UInt8)} {i : Nat} {s : List UInt8}, (∀ s ∈ l, s.length = 64) → i < l.length → s.length = 64 → (flat l).take (i * 64) ++ byteVals s ++ (flat l).drop (i * 64 + 64) = flat (l.set i s)
 | t :: l, 0, s, h, _, hs => by
  have ht : (byteVals t).length = 64 := by rw [byteVals_length]; exact h t (by simp)
  rw [List.set_cons_zero, flat_cons, flat_cons, Nat.zero_mul, List.take_zero, List.nil_append, Nat.zero_add, ← ht, List.drop_left]
 | t :: l, i + 1, s, h, hi, hs => by
  have ht : (byteVals t).length = 64 := by rw [byteVals_length]; exact h t (by simp)
  have ih := flat_set (l := l) (i := i) (s := s) (fun t ht => h t (by simp [ht])) (by simpa using hi) hs
  rw [List.set_cons_succ, flat_cons, flat_cons, ← ih, show (i + 1) * 64 = (byteVals t).length + i * 64 by omega, List.take_append, List.take_of_length_le (by omega), show (byteVals t).length + i * 64 - (byteVals t).length = i * 64 by omega]
  rw [show (byteVals t).length + i * 64 + 64 = (byteVals t).length + (i * 64 + 64) by omega, List.drop_append, List.drop_of_length_le (by omega), List.nil_append, show (byteVals t).length + (i * 64 + 64) - (byteVals t).length = i * 64 + 64 by omega]
  simp only [List.append_assoc]
theorem flat_zeros (n : Nat) : flat (List.replicate n (List.replicate 64 0)) = List.replicate (n * 64) (.int .u8 0) := by
 unfold flat byteVals
 rw [List.flatten_replicate_replicate]
 simp
theorem byteVals_one (l : List UInt8) : ∀ v ∈ byteVals l, v.oneCell' = true := by
 intro v hv
 obtain ⟨x, _, rfl⟩ := List.mem_map.1 hv
 rfl
theorem range_row {w : World} {g : Nat} {cur : Array Value} {t : TypeId} {l : List (List UInt8)} (h : w.heap[g]? = some (.cells cur t (0, 0))) (hc : cur.toList.take (l.length * 64) = flat l) (hl : ∀ s ∈ l, s.length = 64) {i : Nat} (hi : i < l.length) :
  w.rangeAt g (i * 64) (byteVals (l.getD i [])) := by
 intro j v hv
 rw [cell_of_row w g _ cur t (0, 0) h]
 rw [← flat_at hl hi, ← hc] at hv
 rw [List.getElem?_take, List.getElem?_drop, List.getElem?_take] at hv
 split at hv
 ·split at hv
  ·rw [← hv]; simp
  ·cases hv
 ·cases hv
theorem there_row {w : World} {g : Nat} {cur : Array Value} {t : TypeId} (h : w.heap[g]? = some (.cells cur t (0, 0))) {o n : Nat} (hn : o + n ≤ cur.size) : w.there g o n := by
 intro j hj
 rw [cell_of_row w g _ cur t (0, 0) h, frozen_of_row w g _ cur t h]
 refine ⟨?_, rfl⟩
 rw [Array.getElem?_eq_getElem (by omega)]; rfl
theorem flat_setCells {w : World} {g : Nat} {cur : Array Value} {t : TypeId} {l : List (List UInt8)} (h : w.heap[g]? = some (.cells cur t (0, 0))) (hc : cur.toList = flat l) (hl : ∀ s ∈ l, s.length = 64) {i : Nat} (hi : i < l.length) {s : List UInt8} (hs : s.length = 64) :
  ∃ cur', (w.setCells g (i * 64) (byteVals s)).heap[g]? = some (.cells cur' t (0, 0)) ∧ cur'.toList = flat (l.set i s) := by
 have hsz : cur.size = l.length * 64 := by rw [← Array.length_toList, hc, flat_length hl]
 have hb : (byteVals s).length = 64 := by rw [byteVals_length]; exact hs
 refine ⟨_, heap_setCells g t (byteVals s) (i * 64) w cur h (by omega), ?_⟩
 simp only []
 rw [hc, hb]
 exact flat_set hl hi hs
theorem range_back {P : Program} {w : World} {g o cap : Nat} {l : List UInt8} (h : w.rangeAt g o (byteVals l)) (src dst e : TypeId) {n : Nat} (hn : l.length = n)
  (hs : P.underlying src = some (.slice e)) (he : P.underlying e = some (.int .u8)) (hd : P.underlying dst = some .string) :
  (convert src dst (.slice (some ⟨g, o, none⟩) n cap)).run P w = .ok (.string ⟨l.toArray⟩) w := by
 subst hn
 refine run_convert_bytes_back w src dst e ⟨g, o, none⟩ cap l hs he hd fun j hj => ?_
 rw [Addr.add_mid]
 exact h j _ (by unfold byteVals; simp [List.getElem?_eq_getElem hj])
end Go.Proofs.YtdgkhjgnjfgnlaaGreat
