/- Several texts in one. Rows of parts, as a reader asks for them. What a call answers whose result stands in a cell of memory. Rows of parts that a call grows; what a call answers of three results, the first in a cell. -/
import Derived.Test.YtjmeiifogblmoaaGreatDoorMPlA
import Derived.Test.YtjmeiifogblmoaaGreatDoorMKitA
import Derived.Test.YtjmeiifogblmoaaGreatDoorKitRound
import Derived.Deep.AppendLies
namespace Go.Proofs.YtjmeiifogblmoaaGreatDoor
open Go.RowKit

/-- where a part lies -/
structure PartAt (w : World) (b o : Nat) (x : Prt) : Prop where
  c0 : w.cell? ⟨b, o, none⟩ = some (.int .i64 x.col)
  c1 : w.cell? ⟨b, o + 1, none⟩ = some (.int .i64 x.off)
  c2 : w.cell? ⟨b, o + 2, none⟩ = some (.string x.data)
/-- a row of n parts -/
def PartsR (w : World) (a : Option Addr) (n : Nat) (f : Nat → Prt) : Prop := ∀ j, j < n → ∃ b off, a = some ⟨b, off, none⟩ ∧ PartAt w b (off + j * 3) (f j)
theorem PartAt.lt {w : World} {b o : Nat} {x : Prt} (h : PartAt w b o x) : b < w.heap.size := World.block_lt_of_cell? w _ h.c0
theorem PartAt.below {w w' : World} {b o : Nat} {x : Prt} {B : Nat} (h : PartAt w b o x) (hb : Below B w w') (hB : b < B) : PartAt w' b o x :=
  ⟨(hb.cell (p := ⟨b, o, none⟩) hB).trans h.c0, (hb.cell (p := ⟨b, o + 1, none⟩) hB).trans h.c1, (hb.cell (p := ⟨b, o + 2, none⟩) hB).trans h.c2⟩
theorem PartsR.below {w w' : World} {a : Option Addr} {n : Nat} {f : Nat → Prt} (h : PartsR w a n f) (hb : Below w.heap.size w w') : PartsR w' a n f := fun j hj => by
  obtain ⟨b, off, ha, hp⟩ := h j hj
  exact ⟨b, off, ha, hp.below hb hp.lt⟩
theorem PartsR.congr {w : World} {a : Option Addr} {n : Nat} {f g : Nat → Prt} (h : PartsR w a n f) (e : ∀ j, j < n → f j = g j) : PartsR w a n g := fun j hj => by
  obtain ⟨b, off, ha, hp⟩ := h j hj
  exact ⟨b, off, ha, e j hj ▸ hp⟩
theorem PartsR.nil (w : World) (a : Option Addr) (f : Nat → Prt) : PartsR w a 0 f := fun _ h => absurd h (Nat.not_lt_zero _)
/-- a row is nil, or it leads to one block -/
theorem PartsR.head {w : World} {a : Option Addr} {n : Nat} {f : Nat → Prt} (h : PartsR w a n f) (hn : 0 < n) : ∃ b off, a = some ⟨b, off, none⟩ ∧ ∀ j, j < n → PartAt w b (off + j * 3) (f j) := by
  obtain ⟨b, off, ha, _⟩ := h 0 hn
  refine ⟨b, off, ha, fun j hj => ?_⟩
  obtain ⟨b', off', ha', hp⟩ := h j hj
  rw [ha] at ha'; cases ha'; exact hp
/-- what is asked of the numbers of a record that came in -/
structure RecIn (row : Int) (n : Nat) (f : Nat → Prt) : Prop where
  hrow : -9223372036854775808 ≤ row ∧ row ≤ 9223372036854775807
  hlen : n ≤ 9223372036854775807
  hcol : ∀ j, j < n → -9223372036854775808 ≤ (f j).col ∧ (f j).col ≤ 9223372036854775807
  hoff : ∀ j, j < n → -9223372036854775808 ≤ (f j).off ∧ (f j).off ≤ 9223372036854775807
/-- the cells of a block that a call has made, as they are behind one more -/
theorem box_cell {w w1 : World} {cs : Array Value} {t : TypeId} (h : Below (w.alloc (.cells cs t)).heap.size (w.alloc (.cells cs t)) w1) (j : Nat) : w1.cell? ⟨w.heap.size, j, none⟩ = cs[j]? :=
  (h.cell (p := ⟨w.heap.size, j, none⟩) (by simp)).trans (World.cell?_alloc_mark w cs t (0, 0) j)
theorem box_below {w w1 : World} {o : Obj} (h : Below (w.alloc o).heap.size (w.alloc o) w1) : Below w.heap.size w w1 := ((Below.refl _ w).alloc (Nat.le_refl _) _).trans (h.mono (by simp))
end Go.Proofs.YtjmeiifogblmoaaGreatDoor

namespace Go.Proofs.YtjmeiifogblmoaaGreatDoor
open Go.RowKit
theorem ret_cell {P : Program} {fn : Func} {p : Tmp} {ty : TypeId} (h : fn.results = #[.cell p ty]) (tmps : Array Value) (w : World) (a : Addr) (v : Value) (hp : tmps.getD p undef = .pointer (some a)) (hl : (loadVar ty a).run P w = .ok v w) :
    (results fn tmps).run P w = .ok v w := by
  have hp' : tmps[p]?.getD undef = .pointer (some a) := by simpa using hp
  simp [results, h, hp', asAddr, hl]
theorem ret_cell_tmp {P : Program} {fn : Func} {p q : Tmp} {ty : TypeId} (h : fn.results = #[.cell p ty, .tmp q]) (tmps : Array Value) (w : World) (a : Addr) (v : Value) (hp : tmps.getD p undef = .pointer (some a)) (hl : (loadVar ty a).run P w = .ok v w) :
    (results fn tmps).run P w = .ok (.tuple #[v, tmps.getD q undef]) w := by
  have hp' : tmps[p]?.getD undef = .pointer (some a) := by simpa using hp
  simp [results, h, hp', asAddr, hl]
end Go.Proofs.YtjmeiifogblmoaaGreatDoor

namespace Go.Proofs.YtjmeiifogblmoaaGreatDoor
open Go.RowKit

def prt3 (x : Prt) : List Value := [.int .i64 x.col, .int .i64 x.off, .string x.data]
def prtVals (n : Nat) (f : Nat → Prt) : List Value := match n with
  | 0 => []
  | n + 1 => prtVals n f ++ prt3 (f n)
theorem prtVals_length (f : Nat → Prt) : ∀ n, (prtVals n f).length = n * 3
  | 0 => rfl
  | n + 1 => by rw [prtVals, List.length_append, prtVals_length f n]; show n * 3 + 3 = _; omega
theorem prtVals_at (f : Nat → Prt) : ∀ {n j : Nat}, j < n → ∀ k, k < 3 → (prtVals n f)[j * 3 + k]? = (prt3 (f j))[k]?
  | 0, j, h, _, _ => absurd h (Nat.not_lt_zero _)
  | n + 1, j, h, k, hk => by
    rw [prtVals]
    by_cases e : j < n
    · rw [List.getElem?_append_left (by rw [prtVals_length]; omega)]
      exact prtVals_at f e k hk
    · have : j = n := by omega
      subst this
      rw [List.getElem?_append_right (by rw [prtVals_length]; omega), prtVals_length, show j * 3 + k - j * 3 = k by omega]
theorem PartsR.of_owns {w : World} {base t n : Nat} {v : Value} {f : Nat → Prt} (h : w.ownsRow base t 3 v n (prtVals n f)) : ∃ a cap, v = .slice a n cap ∧ PartsR w a n f ∧ n ≤ cap ∧ ∀ x, a = some x → base ≤ x.block := by
  rcases h.2 with ⟨rfl, rfl⟩ | ⟨g, cap, cur, rfl, hg, _, hn, _⟩
  · exact ⟨none, 0, rfl, PartsR.nil _ _ _, Nat.zero_le _, fun _ e => by cases e⟩
  · refine ⟨_, cap, rfl, fun j hj => ⟨g, 0, rfl, ?_⟩, hn, fun _ e => by cases e; exact hg⟩
    have key : ∀ k u, k < 3 → (prt3 (f j))[k]? = some u → w.cell? ⟨g, 0 + j * 3 + k, none⟩ = some u := fun k u hk hu => by
      have hc := h.cells (g := g) rfl (j * 3 + k) u (by rw [prtVals_at f hj k hk]; exact hu)
      have hadd : (⟨g, 0, none⟩ : Addr).add (j * 3 + k) = ⟨g, 0 + (j * 3 + k), none⟩ := by unfold Addr.add; split <;> simp_all
      rw [hadd, ← Nat.add_assoc] at hc
      exact hc
    exact ⟨key 0 _ (by decide) rfl, key 1 _ (by decide) rfl, key 2 _ (by decide) rfl⟩
theorem news3 (w : World) (x y z : Value) (t : TypeId) : ∀ j u, [x, y, z][j]? = some u → (w.alloc (.cells #[x, y, z] t)).cell? ((⟨w.heap.size, 0, none⟩ : Addr).add j) = some u := World.news_of_block (heap_alloc_new w _)
theorem ret_cell_tmp2 {P : Program} {fn : Func} {p q r : Tmp} {ty : TypeId} (h : fn.results = #[.cell p ty, .tmp q, .tmp r]) (tmps : Array Value) (w : World) (a : Addr) (v : Value) (hp : tmps.getD p undef = .pointer (some a)) (hl : (loadVar ty a).run P w = .ok v w) :
    (results fn tmps).run P w = .ok (.tuple #[v, tmps.getD q undef, tmps.getD r undef]) w := by
  have hp' : tmps[p]?.getD undef = .pointer (some a) := by simpa using hp
  simp [results, h, hp', asAddr, hl]
/-- a record's three cells -/
structure BoxAt (w : World) (b : Nat) (c0 c1 c2 : Value) : Prop where
  k0 : w.cell? ⟨b, 0, none⟩ = some c0
  k1 : w.cell? ⟨b, 1, none⟩ = some c1
  k2 : w.cell? ⟨b, 2, none⟩ = some c2
  f0 : w.frozen? ⟨b, 0, none⟩ = false
  f1 : w.frozen? ⟨b, 1, none⟩ = false
  f2 : w.frozen? ⟨b, 2, none⟩ = false
theorem BoxAt.new (w : World) (t : TypeId) (c0 c1 c2 : Value) : BoxAt (w.alloc (.cells #[c0, c1, c2] t)) w.heap.size c0 c1 c2 :=
  ⟨World.cell?_alloc_mark w _ t (0, 0) 0, World.cell?_alloc_mark w _ t (0, 0) 1, World.cell?_alloc_mark w _ t (0, 0) 2, by rw [World.frozen?_alloc_mark]; simp, by rw [World.frozen?_alloc_mark]; simp, by rw [World.frozen?_alloc_mark]; simp⟩
theorem box_new12 (w : World) (t : TypeId) (c0 c1 c2 : Value) : BoxAt (w.alloc (.cells #[c0, c1, c2] t)) w.heap.size c0 c1 c2 ∧ Below w.heap.size w (w.alloc (.cells #[c0, c1, c2] t)) := ⟨BoxAt.new _ _ _ _ _, (Below.refl _ w).alloc (Nat.le_refl _) _⟩
theorem BoxAt.lt {w : World} {b : Nat} {c0 c1 c2 : Value} (h : BoxAt w b c0 c1 c2) : b < w.heap.size := World.block_lt_of_cell? w _ h.k0
theorem BoxAt.below {w w' : World} {b B : Nat} {c0 c1 c2 : Value} (h : BoxAt w b c0 c1 c2) (hb : Below B w w') (hB : b < B) : BoxAt w' b c0 c1 c2 :=
  ⟨(hb.cell (p := ⟨b, 0, none⟩) hB).trans h.k0, (hb.cell (p := ⟨b, 1, none⟩) hB).trans h.k1, (hb.cell (p := ⟨b, 2, none⟩) hB).trans h.k2, (hb.frozen (p := ⟨b, 0, none⟩) hB).trans h.f0, (hb.frozen (p := ⟨b, 1, none⟩) hB).trans h.f1, (hb.frozen (p := ⟨b, 2, none⟩) hB).trans h.f2⟩
/-- three cells stored one behind the other: what lay below stays -/
theorem stored3 {w w1 : World} {n k : Nat} (h : Below n w w1) (hn : n ≤ k) (h1 : n ≤ w1.heap.size) (a b c : Value) : Below n w (((w1.setCell ⟨k, 0, none⟩ a).setCell ⟨k, 1, none⟩ b).setCell ⟨k, 2, none⟩ c) :=
  h.trans (((Only.setCell (fun x => x = k) w1 ⟨k, 0, none⟩ a rfl).then ((Only.setCell (fun x => x = k) _ ⟨k, 1, none⟩ b rfl).then (Only.setCell (fun x => x = k) _ ⟨k, 2, none⟩ c rfl))).below (fun x hx => by rw [hx]; exact hn) h1)
theorem PartsR.only {w w' : World} {a : Option Addr} {n : Nat} {f : Nat → Prt} {G : Nat → Prop} (h : PartsR w a n f) (ho : Only G w w') (hn : ∀ x, a = some x → ¬ G x.block) : PartsR w' a n f := fun j hj => by
  obtain ⟨b, off, ha, hp⟩ := h j hj
  have e : w'.heap[b]? = w.heap[b]? := ho.block b hp.lt (hn _ ha)
  have c : ∀ o, w'.cell? ⟨b, o, none⟩ = w.cell? ⟨b, o, none⟩ := fun o => by
    unfold World.cell?
    dsimp only
    rw [e]
  exact ⟨b, off, ha, (c _).trans hp.c0, (c _).trans hp.c1, (c _).trans hp.c2⟩
theorem only3 (w : World) (b : Nat) (x y z : Value) : Only (fun k => k = b) w ((((w.setCell ⟨b, 0, none⟩ x).setCell ⟨b, 1, none⟩ y).setCell ⟨b, 2, none⟩ z)) :=
  (Only.setCell (fun k => k = b) w ⟨b, 0, none⟩ x rfl).then ((Only.setCell (fun k => k = b) _ ⟨b, 1, none⟩ y rfl).then (Only.setCell (fun k => k = b) _ ⟨b, 2, none⟩ z rfl))
theorem own_set {w : World} {B t s n : Nat} {v : Value} {l : List Value} (h : w.ownsRow B t s v n l) {a : Addr} (ha : a.block < B) (x : Value) : (w.setCell a x).ownsRow B t s v n l := by
  refine ⟨h.1, ?_⟩
  rcases h.2 with h0 | ⟨g, cap, cur, rfl, hg, hb, rest⟩
  · exact .inl h0
  · exact .inr ⟨g, cap, cur, rfl, hg, (heap_setCell_other w a g x (by omega)).trans hb, rest⟩
theorem only_low {w w1 w2 : World} {F : Nat → Prop} (h : Only F w w1) (hb : Below w.heap.size w1 w2) : Only F w w2 :=
  h.trans ⟨hb.os, hb.tape, hb.output, hb.size, fun k _ hn => hb.block k (by
    refine Decidable.byContradiction fun hk => hn (.inr (by omega)))⟩
/-- a record's third cell is stored to -/
theorem BoxAt.store {w : World} {b : Nat} {c0 c1 c2 : Value} (h : BoxAt w b c0 c1 c2) (x : Value) : BoxAt (w.setCell ⟨b, 2, none⟩ x) b c0 c1 x :=
  ⟨(World.cell?_setCell_other _ _ _ _ (fun e => by injection e with _ e2; cases e2)).trans h.k0, (World.cell?_setCell_other _ _ _ _ (fun e => by injection e with _ e2; cases e2)).trans h.k1, World.cell?_setCell_same _ _ _ h.k2,
    (World.frozen?_setCell _ _ _ _).trans h.f0, (World.frozen?_setCell _ _ _ _).trans h.f1, (World.frozen?_setCell _ _ _ _).trans h.f2⟩
end Go.Proofs.YtjmeiifogblmoaaGreatDoor
