/- For all numbers and all lists of roles the law SlotsNext returns true: what is saved next is loaded then, and the one ahead of it is still in the other slot; with the newer one's sector spoilt the one ahead of it is loaded. No condition. -/
import Derived.Test.YtgkhnfchohcjeaaSlBase
import Derived.Test.YtgkhnfchohcjeaaKitSup
import Derived.Deep.Cut
import Derived.Deep.LoopGhost
import Derived.ProofKit
import Derived.OpenShut
import Derived.ShutString
namespace Go.Proofs.Ytgkhnfchohcjeaa.slotsNext
open Go.ChangeShapes Go.WideShapes Go.ChangeAt Go.RowKit
open Go.ChangeMaps (open_string shut_string)

/-- the superblock that is the newest behind k calls -/
def lastS (u A : Nat) (roles : List Nat) (k : Nat) : Su := if k = 0 then Sup.none else soS u (A + k) (roles.getD (k - 1) 0)
theorem lastS_succ (u A : Nat) (roles : List Nat) (k : Nat) : lastS u A roles (k + 1) = soS u (A + k + 1) (roles.getD k 0) := by
  unfold lastS; rw [if_neg (Nat.succ_ne_zero k)]; rfl
/-- what the drive's slots hold behind k calls of Next -/
structure Chain (D : Dr) (u A : Nat) (roles : List Nat) (k : Nat) : Prop where
  calm : D.Calm 2
  now : 0 < k → D.slS ((A + k) % 2 : Nat) = lastS u A roles k ∧ D.slB ((A + k) % 2 : Nat) = true
  was : 1 < k → D.slS ((A + k + 1) % 2 : Nat) = lastS u A roles (k - 1) ∧ D.slB ((A + k + 1) % 2 : Nat) = true
  bare : k ≤ 1 → D.slB ((A + k + 1) % 2 : Nat) = false
  bare0 : k = 0 → D.slB ((A + k) % 2 : Nat) = false
theorem Chain.start (u A : Nat) (roles : List Nat) : Chain (Dr.fresh 2) u A roles 0 :=
  ⟨Dr.Calm.fresh 2, fun h => absurd h (Nat.lt_irrefl _), fun h => absurd h (by decide), fun _ => Dr.Calm.fresh_none (Nat.mod_lt _ (by decide)), fun _ => Dr.Calm.fresh_none (Nat.mod_lt _ (by decide))⟩
section
variable {D : Dr} {u A : Nat} {roles : List Nat} {k : Nat}
theorem Chain.load (h : Chain D u A roles k) (hk : 0 < k) : D.loadE = 0 ∧ D.loadS = lastS u A roles k := by
  have hl : (A + k) % 2 < 2 := Nat.mod_lt _ (by decide)
  have hm : (A + k + 1) % 2 < 2 := Nat.mod_lt _ (by decide)
  have hne : (A + k) % 2 ≠ (A + k + 1) % 2 := by omega
  obtain ⟨n1, n2⟩ := h.now hk
  by_cases h1 : 1 < k
  · obtain ⟨p1, p2⟩ := h.was h1
    obtain ⟨r1, r2⟩ := Dr.load_two h.calm.live hl hm hne n2 p2 (by
      rw [n1, p1]
      unfold lastS
      rw [if_neg (by omega), if_neg (by omega)]
      show A + (k - 1) < A + k; omega)
    exact ⟨r1, r2.trans n1⟩
  · obtain ⟨r1, r2⟩ := Dr.load_one h.calm.live hl hm hne n2 (h.bare (by omega))
    exact ⟨r1, r2.trans n1⟩
theorem Chain.load0 (h : Chain D u A roles 0) : D.loadE = 90 := by
  have h0 := h.bare0 rfl
  have h1 := h.bare (by decide)
  have : A % 2 = 0 ∨ A % 2 = 1 := by omega
  have e0 : (A + 0) % 2 = A % 2 := rfl
  rcases this with e | e
  · have e1 : (A + 0 + 1) % 2 = 1 := by omega
    rw [e0, e] at h0
    rw [e1] at h1
    exact (Dr.load_none h.calm.live h0 h1).1
  · have e1 : (A + 0 + 1) % 2 = 0 := by omega
    rw [e0, e] at h0
    rw [e1] at h1
    exact (Dr.load_none h.calm.live h1 h0).1
/-- what Next is called with, and saves -/
theorem Chain.bump (h : Chain D u A roles k) (hA : A + k + 1 < 18446744073709551616) (r : Nat) : D.bump (soS u (A + k) r) = soS u (A + k + 1) r := by
  have hb : D.bump (soS u (A + k) r) = soS u (((if D.loadE = 0 then D.loadS.ev else (A + k)) + 1) % 18446744073709551616) r := rfl
  rw [hb]
  by_cases hk : k = 0
  · subst hk
    rw [h.load0, if_neg (by decide), Nat.mod_eq_of_lt hA]
  · obtain ⟨e1, e2⟩ := h.load (by omega)
    have e3 : (lastS u A roles k).ev = A + k := by unfold lastS; rw [if_neg hk]; rfl
    rw [e1, if_pos rfl, e2, e3, Nat.mod_eq_of_lt hA]
theorem Chain.step (h : Chain D u A roles k) (hu : u < 18446744073709551616) (hA : A + k + 1 < 18446744073709551616) : Chain (D.savedD (soS u (A + k + 1) (roles.getD k 0))) u A roles (k + 1) := by
  obtain ⟨s, es⟩ : ∃ s, s = soS u (A + k + 1) (roles.getD k 0) := ⟨_, rfl⟩
  have hs : Dr.slot s = (A + k + 1) % 2 := by rw [es]; rfl
  have hmay : Sup.may s := by rw [es]; exact soS_may _ _ _
  have hlt : (A + k + 1) % 2 < 2 := Nat.mod_lt _ (by decide)
  have ho : (A + (k + 1) + 1) % 2 = (A + k) % 2 := by omega
  have hko : (A + k) % 2 ≠ Dr.slot s := by rw [hs]; omega
  have keep := h.calm.saved_keeps s (i := (A + k) % 2) (Nat.mod_lt _ (by decide)) hko
  have e1 : A + (k + 1) = A + k + 1 := rfl
  rw [← es]
  refine ⟨h.calm.saved s, fun _ => ?_, fun hk => ?_, fun hk => ?_, fun hk => absurd hk (Nat.succ_ne_zero k)⟩
  · rw [e1, ← hs, lastS_succ, ← es]
    exact h.calm.saved_holds (by decide) hmay (by rw [es]; exact soS_bd hu hA)
  · rw [ho, keep.1, keep.2, Nat.add_sub_cancel]
    exact h.now (by omega)
  · rw [ho, keep.2]
    exact h.bare0 (by omega)
end
/-- the drive, and the newest superblock beside it, in a block that is none of the drive's -/
structure HasF (w W : World) (p a : Nat) (D : Dr) (last : List Value) (F : Nat → Prop) : Prop where
  d : DriveAt W p D F
  f : ∀ j, F j → w.heap.size ≤ j ∧ j < W.heap.size
  no : ¬ F a
  lt : a < W.heap.size
  r : W.rangeAt a 0 last
  t : W.there a 0 10
  ge : w.heap.size ≤ a
  low : Below w.heap.size w W
def Has (w W : World) (p a : Nat) (D : Dr) (last : List Value) : Prop := ∃ F, HasF w W p a D last F
section
variable {w W W' : World} {p a : Nat} {D : Dr} {last : List Value}
theorem Has.low (h : Has w W p a D last) : Below w.heap.size w W := by obtain ⟨F, h⟩ := h; exact h.low
theorem Has.below (h : Has w W p a D last) (hb : Below W.heap.size W W') : Has w W' p a D last := by
  obtain ⟨F, h⟩ := h
  exact ⟨F, h.d.below hb, fun j hj => ⟨(h.f j hj).1, Nat.lt_of_lt_of_le (h.f j hj).2 hb.size⟩, h.no, Nat.lt_of_lt_of_le h.lt hb.size, range_below h.r h.lt hb, there_below h.t h.lt hb, h.ge, below2 h.low hb⟩
theorem HasF.saved {F : Nat → Prop} {D' : Dr} (h : HasF w W p a D last F) (hs : SavedAt W W' p D D' F) : Has w W' p a D' last := by
  refine ⟨fun k => Plus F W.heap.size k ∧ k < W'.heap.size, hs.1.tight, fun j hj => ⟨?_, hj.2⟩, fun hj => ?_, Nat.lt_of_lt_of_le h.lt hs.2.size, range_only h.r h.lt hs.2 h.no, there_only h.t h.lt hs.2 h.no, h.ge, h.low.trans (hs.2.below (fun k hk => (h.f k hk).1) h.low.size)⟩
  · rcases hj.1 with h1 | h1
    · exact (h.f j h1).1
    · exact Nat.le_trans h.low.size h1
  · rcases hj.1 with h1 | h1
    · exact h.no h1
    · exact absurd h.lt (Nat.not_lt.2 h1)
theorem Has.next (h : Has w W p a D last) (s : Su) (hI : s.Bd) (h2 : 2 ≤ D.safe.length) (hlen : ∀ i, (D.writes i).length < 1000000) :
    Calls Try.prog 8 #[.pointer (some ⟨p, 0, none⟩), .agg (supL s).toArray] W fun e W' => e = .returned (.tuple #[.agg (supL (D.nextS s)).toArray, .int .i64 (D.saveE (D.bump s) : Nat)]) ∧ Has w W' p a (D.saveD (D.bump s)) last ∧ W.heap.size ≤ W'.heap.size := by
  obtain ⟨F, h⟩ := h
  exact (next_any sup_says h.d s hI h2 hlen).mono fun _ _ ⟨he, hs⟩ => ⟨he, h.saved hs, hs.2.size⟩
theorem Has.load (h : Has w W p a D last) : Calls Try.prog 10 #[.pointer (some ⟨p, 0, none⟩)] W fun e W' => e = .returned (.tuple #[.agg (supL D.loadS).toArray, .int .i64 (D.loadE : Nat)]) ∧ Below W.heap.size W W' := by
  obtain ⟨F, h⟩ := h
  exact load_any sup_says h.d
theorem Has.both (h : Has w W p a D last) : Calls Try.prog 11 #[.pointer (some ⟨p, 0, none⟩)] W fun e W' => e = .returned (.tuple #[.agg (supL (D.slS 0) ++ supL (D.slS 1)).toArray, .agg #[.bool (D.slB 0), .bool (D.slB 1)]]) ∧ Below W.heap.size W W' := by
  obtain ⟨F, h⟩ := h
  exact both_any sup_says h.d
theorem Has.spoil {n : Nat} (h : Has w W p a D last) (hv : D.Live n) (i : Nat) (hi : i < n) :
    Calls Try.prog 12 #[.pointer (some ⟨p, 0, none⟩), .int .i64 (i : Nat)] W fun e W' => e = .returned (.int .i64 0) ∧ Has w W' p a (D.spoil i) last := by
  obtain ⟨F, h⟩ := h
  exact (spoil_yes h.d i hv.run (by rw [hv.len]; exact hi)).mono fun _ _ ⟨he, hd, ho⟩ => ⟨he, h.saved ⟨hd.mono fun _ hk => .inl hk, ho⟩⟩
theorem Has.set (h : Has w W p a D last) {l : List Value} (hl : l.length = 10) : Has w (W.setCells a 0 l) p a D l := by
  obtain ⟨F, h⟩ := h
  have o : Only (One a) W (W.setCells a 0 l) := Only.setCells _ W a 0 l rfl
  exact ⟨F, h.d.only o (fun k _ hk e => h.no (by rw [← show k = a from e]; exact hk)), fun j hj => ⟨(h.f j hj).1, by rw [size_setCells]; exact (h.f j hj).2⟩, h.no, by rw [size_setCells]; exact h.lt, World.rangeAt_setCells_same _ _ _ _ (by rw [hl]; exact h.t), World.there_setCells h.t _ _ _, h.ge, h.low.trans (below_setCells h.ge _)⟩
theorem Has.start {t : TypeId} (hd : Mine W w.heap.size p D) (hb : Below w.heap.size w W) : Has w (W.alloc (.cells (supL Sup.none).toArray t)) p W.heap.size D (supL Sup.none) := by
  have hs : (W.alloc (.cells (supL Sup.none).toArray t)).heap.size = W.heap.size + 1 := World.size_alloc ..
  exact ⟨fun k => w.heap.size ≤ k ∧ k < W.heap.size, hd.1.tight.below ((Below.refl _ W).alloc (Nat.le_refl _) _), fun j hj => ⟨hj.1, by rw [hs]; omega⟩, fun hj => absurd hj.2 (Nat.lt_irrefl _), by rw [hs]; exact Nat.lt_succ_self _, range_new W t _, there_new W _ t 10 (by decide), hd.2, hb.alloc hb.size _⟩
end
theorem cells10n {w : World} {b : Nat} {l : List Value} (h : w.rangeAt b 0 l) {v0 v1 v2 v3 v4 v5 v6 v7 v8 v9 : Value} (e : l = [v0, v1, v2, v3, v4, v5, v6, v7, v8, v9]) :
    w.cell? ⟨b, 0, none⟩ = some v0 ∧ w.cell? ⟨b, 1, none⟩ = some v1 ∧ w.cell? ⟨b, 2, none⟩ = some v2 ∧ w.cell? ⟨b, 3, none⟩ = some v3 ∧ w.cell? ⟨b, 4, none⟩ = some v4 ∧ w.cell? ⟨b, 5, none⟩ = some v5 ∧ w.cell? ⟨b, 6, none⟩ = some v6 ∧ w.cell? ⟨b, 7, none⟩ = some v7 ∧ w.cell? ⟨b, 8, none⟩ = some v8 ∧ w.cell? ⟨b, 9, none⟩ = some v9 := by
  subst e
  exact ⟨h 0 _ rfl, h 1 _ rfl, h 2 _ rfl, h 3 _ rfl, h 4 _ rfl, h 5 _ rfl, h 6 _ rfl, h 7 _ rfl, h 8 _ rfl, h 9 _ rfl⟩
theorem cells10t {w : World} {b : Nat} {l : List Value} (h : w.rangeAt b 10 l) {v0 v1 v2 v3 v4 v5 v6 v7 v8 v9 : Value} (e : l = [v0, v1, v2, v3, v4, v5, v6, v7, v8, v9]) :
    w.cell? ⟨b, 10, none⟩ = some v0 ∧ w.cell? ⟨b, 11, none⟩ = some v1 ∧ w.cell? ⟨b, 12, none⟩ = some v2 ∧ w.cell? ⟨b, 13, none⟩ = some v3 ∧ w.cell? ⟨b, 14, none⟩ = some v4 ∧ w.cell? ⟨b, 15, none⟩ = some v5 ∧ w.cell? ⟨b, 16, none⟩ = some v6 ∧ w.cell? ⟨b, 17, none⟩ = some v7 ∧ w.cell? ⟨b, 18, none⟩ = some v8 ∧ w.cell? ⟨b, 19, none⟩ = some v9 := by
  subst e
  exact ⟨h 0 _ rfl, h 1 _ rfl, h 2 _ rfl, h 3 _ rfl, h 4 _ rfl, h 5 _ rfl, h 6 _ rfl, h 7 _ rfl, h 8 _ rfl, h 9 _ rfl⟩
theorem keepc_det {P : Program} {f : FuncId} {args : Array Value} {v : Value} {wr W : World} {b' : Nat} {l : List Value} {q : Addr} {x : Value} (h : Calls P f args W fun e w' => e = .returned v ∧ Below W.heap.size W w') (hW : Keep1 wr b' l wr.heap.size W ∧ W.cell? q = some x) :
    Calls P f args W fun e w' => e = .returned v ∧ (Keep1 wr b' l wr.heap.size w' ∧ w'.cell? q = some x) :=
  h.mono fun _ _ ⟨e, hb⟩ => ⟨e, ⟨range_below hW.1.1 hW.1.2.1 hb, Nat.lt_of_lt_of_le hW.1.2.1 hb.size, hW.1.2.2.trans (hb.mono hW.1.2.2.size)⟩, (hb.cell (World.block_lt_of_cell? W _ hW.2)).trans hW.2⟩
/-- which slot has which, behind a call of Next that was not the first -/
def HalfFacts (D : Dr) (_X : Nat) (s t : Su) : Prop := D.slB 0 = true ∧ D.slB 1 = true ∧ (D.slS 0 = s ∧ D.slS 1 = t ∨ D.slS 0 = t ∧ D.slS 1 = s)
theorem half_facts {D : Dr} {u A X X1 k : Nat} {roles : List Nat} {t : Su} (h : Chain D u A roles (k + 1)) (_h1 : X1 = A + k + 1) (_h2 : X = A + k) (ht : lastS u A roles (k + 1) = t) (hk : k ≠ 0) : HalfFacts D X (lastS u A roles k) t := by
  obtain ⟨n1, n2⟩ := h.now (Nat.succ_pos k)
  obtain ⟨p1, p2⟩ := h.was (by omega)
  rw [ht] at n1
  rw [Nat.add_sub_cancel] at p1
  have : (A + (k + 1)) % 2 = 0 ∧ (A + (k + 1) + 1) % 2 = 1 ∨ (A + (k + 1)) % 2 = 1 ∧ (A + (k + 1) + 1) % 2 = 0 := by omega
  rcases this with ⟨e1, e2⟩ | ⟨e1, e2⟩
  · rw [e1] at n1 n2
    rw [e2] at p1 p2
    exact ⟨n2, p2, .inr ⟨n1, p1⟩⟩
  · rw [e1] at n1 n2
    rw [e2] at p1 p2
    exact ⟨p2, n2, .inl ⟨p1, n1⟩⟩
/-- with the newer one's sector spoilt the one ahead of it is loaded -/
theorem spoil_loads {D : Dr} {u A k j : Nat} {roles : List Nat} (h : Chain D u A roles (k + 1)) (hsl : D.spoilt.length = D.safe.length) (hj : j = (A + k + 1) % 2) (hk : k ≠ 0) : (D.spoil j).loadE = 0 ∧ (D.spoil j).loadS = lastS u A roles k := by
  obtain ⟨p1, p2⟩ := h.was (by omega)
  rw [Nat.add_sub_cancel] at p1
  have hj2 : j < 2 := by rw [hj]; exact Nat.mod_lt _ (by decide)
  obtain ⟨o, ho⟩ : ∃ o, o = (A + (k + 1) + 1) % 2 := ⟨_, rfl⟩
  have ho2 : o < 2 := by rw [ho]; exact Nat.mod_lt _ (by decide)
  have hne : o ≠ j := by omega
  rw [← ho] at p1 p2
  have hv : (D.spoil j).Live 2 := h.calm.live.spoil j
  have so : (D.spoil j).spoilt.getD o false = false := by
    show (D.spoilt.set j true).getD o false = false
    rw [Dr.getD_set_other (fun e => hne e.symm)]; exact h.calm.spoilt o
  obtain ⟨a1, a2⟩ := Dr.sl_read h.calm.live ho2 (h.calm.spoilt o)
  obtain ⟨b1, b2⟩ := Dr.sl_read hv ho2 so
  have hb : (D.spoil j).slB j = false := by
    by_cases hs : (D.spoil j).spoilt.getD j false = true
    · exact Dr.sl_spoilt hv hj2 hs
    · have hl : j < D.spoilt.length := by rw [hsl, h.calm.live.len]; exact hj2
      exact absurd (Dr.getD_set_same hl) hs
  have e1 : (D.spoil j).slS o = D.slS o := b1.trans a1.symm
  have e2 : (D.spoil j).slB o = D.slB o := b2.trans a2.symm
  obtain ⟨r1, r2⟩ := Dr.load_one hv ho2 hj2 hne (e2.trans p2) hb
  exact ⟨r1, r2.trans (e1.trans p1)⟩
set_option maxRecDepth 100000 in
set_option maxHeartbeats 400000 in
theorem walk_long (w : World) (u v : Int) (a : Option Addr) (cap n : Nat) (sp : Bool) (hn : n ≤ maxLen) (h : 60 < n) :
    Calls Try.prog 3 #[.int .u64 u, .int .u64 v, .slice a n cap, .bool sp] w fun e w' => e = .returned (.bool true) ∧ Below w.heap.size w w' := by
  unfold maxLen at hn
  have h1 : (60 : Int) < (n : Int) := by omega
  clear h
  go_enter Try.func3, Try.ntmps3
  go_wp2_with fail
  refine (shown9_any _).mono ?_
  rintro e w1 ⟨rfl, b1⟩
  go_wp2
  go_ret
  exact ⟨rfl, b1⟩
set_option maxRecDepth 100000 in
set_option maxHeartbeats 400000 in
theorem walk_nil (w : World) (u v : Int) (a : Option Addr) (cap : Nat) (sp : Bool) :
    Calls Try.prog 3 #[.int .u64 u, .int .u64 v, .slice a 0 cap, .bool sp] w fun e w' => e = .returned (.bool true) ∧ Below w.heap.size w w' := by
  go_enter Try.func3, Try.ntmps3
  go_wp2_with fail
  refine (shown9_any _).mono ?_
  rintro e w1 ⟨rfl, b1⟩
  go_wp2
  go_ret
  exact ⟨rfl, b1⟩
set_option maxRecDepth 100000 in
set_option maxHeartbeats 8000000 in
theorem walk_some (w : World) (u v : Nat) (hu : u < 18446744073709551616) (b off cap : Nat) (sp : Bool) (roles : List Nat) (hn : roles.length ≤ 60) (hpos : 0 < roles.length) (h8 : ∀ j, roles.getD j 0 < 256) (hI : ∀ j, j < roles.length → w.cell? ⟨b, off + j, none⟩ = some (.int .u8 ((roles.getD j 0 : Nat) : Int))) :
    Calls Try.prog 3 #[.int .u64 (u : Int), .int .u64 (v : Int), .slice (some ⟨b, off, none⟩) roles.length cap, .bool sp] w fun e w' => e = .returned (.bool true) ∧ Below w.heap.size w w' := by
  have HMX : Hid (Try.prog.follows .mixedOrders = true) := by show _ = _; kernel_rfl
  obtain ⟨A, hA⟩ : ∃ A : Nat, A = v % 1152921504606846976 := ⟨_, rfl⟩
  have hA60 : A < 1152921504606846976 := by rw [hA]; exact Nat.mod_lt _ (by decide)
  have hAi : (v : Int) % 1152921504606846976 = (A : Int) := by omega
  obtain ⟨n, en⟩ : ∃ n, n = roles.length := ⟨_, rfl⟩
  have HN : Hid (n = roles.length) := en
  rw [← en] at hn hpos hI ⊢
  have hn1 : ¬ (60 : Int) < (n : Int) := by omega
  have hn2 : ((n : Int) == 0) = false := by rw [beq_eq_false_iff_ne]; omega
  have hbl : b < w.heap.size := World.block_lt_of_cell? w _ (hI 0 hpos)
  have HI : Hid (∀ j, j < n → w.cell? ⟨b, off + j, none⟩ = some (.int .u8 ((roles.getD j 0 : Nat) : Int))) := hI
  have H8 : Hid (∀ j, roles.getD j 0 < 256) := h8
  have HU : Hid (u < 18446744073709551616) := hu
  have HA60 : Hid (A < 1152921504606846976) := hA60
  have HN60 : Hid (n ≤ 60) := hn
  have HBL : Hid (b < w.heap.size) := hbl
  have LN : Hid _ := supL_of Sup.none
  obtain ⟨ln, eln⟩ : ∃ ln, supL Sup.none = ln := ⟨_, rfl⟩
  have HLN : Hid (SupL ln Sup.none) := by rw [← eln]; exact LN.out
  have HELN : Hid (supL Sup.none = ln) := eln
  clear hA hI h8 hu en hpos hbl eln hA60 hn LN
  go_enter Try.func3, Try.ntmps3
  go_wp2_with fail
  refine (shown9_any _).mono ?_
  rintro e w1 ⟨rfl, b1⟩
  have B1 : Hid (Below w.heap.size w w1) := b1
  clear b1
  go_wp2_with fail
  refine (new_mine 2 w.heap.size (by omega) (by omega) _ B1.out.size).mono ?_
  rintro e w2 ⟨p, rfl, m2, b2⟩
  have M2 : Hid (Mine w2 w.heap.size p (Dr.fresh 2)) := m2
  have B2 : Hid (Below w.heap.size w w2) := B1.out.trans b2
  clear m2 b2
  go_upto_region 8 with fail
  have HSt := Has.start (t := 30) M2.out B2.out
  obtain ⟨a, ea⟩ : ∃ a, a = w2.heap.size := ⟨_, rfl⟩
  change Code.wp _ _ _ _ (w2.alloc (.cells (supL Sup.none).toArray 30))
  obtain ⟨W0, hW0⟩ : ∃ W0, W0 = w2.alloc (.cells (supL Sup.none).toArray 30) := ⟨_, rfl⟩
  rw [HELN.out] at HSt
  rw [HELN.out] at hW0 ⊢
  rw [← hW0, ← ea] at HSt
  rw [← hW0, ← ea]
  have HS0 : Hid (Has w W0 p a (Dr.fresh 2) ln) := HSt
  clear HSt hW0 ea M2 B1 B2
  simp only [hAi]
  clear hAi
  go_wp2
  go_loopg [11, 12] n (fun gg ta ti wr => ∃ (k : Nat) (D : Dr), k ≤ n ∧ gg = n - k ∧ ta = .int .u64 ((A + k : Nat) : Int) ∧ ti = .int .i64 k ∧ Chain D u A roles k ∧ Has w wr p a D (supL (lastS u A roles k)))
  case atStart => exact ⟨0, _, Nat.zero_le _, rfl, by simp, rfl, Chain.start u A roles, by rw [show lastS u A roles 0 = Sup.none from rfl, HELN.out]; exact HS0.out⟩
  case round =>
    obtain ⟨k, D, hk, rfl, rfl, rfl, hC, hH⟩ := hrel
    have HC : Hid (Chain D u A roles k) := hC
    have HH : Hid (Has w wr p a D (supL (lastS u A roles k))) := hH
    clear hC hH HS0
    by_cases hlt : k < n
    case neg =>
      have hkn : k = n := by omega
      subst hkn
      go_wp2
      go_ret
      exact ⟨rfl, HH.out.low⟩
    have hA60 := HA60.out
    have hn60 := HN60.out
    obtain ⟨X, eX⟩ : ∃ X, X = A + k := ⟨_, rfl⟩
    obtain ⟨X1, eX1⟩ : ∃ X1, X1 = X + 1 := ⟨_, rfl⟩
    have hX60 : X1 < 1152921504606847100 := by omega
    have hXw : IntKind.u64.wrap ((X : Int) + 1) = (X1 : Int) := by rw [IntKind.wrap_u64]; omega
    have hXi : (X : Int) + 1 = (X1 : Int) := by omega
    have hXz : IntKind.u64.wrap (X1 : Int) = (X1 : Int) := by rw [IntKind.wrap_u64]; omega
    obtain ⟨R, eR⟩ : ∃ R, R = roles.getD k 0 := ⟨_, rfl⟩
    have hR8 : R < 256 := by rw [eR]; exact H8.out k
    have hcur : wr.cell? ⟨b, off + k, none⟩ = some (.int .u8 (R : Int)) := by rw [eR]; exact (HH.out.low.cell (p := ⟨b, off + k, none⟩) HBL.out).trans (HI.out k hlt)
    have HCUR : Hid (∀ W, Below w.heap.size w W → W.cell? ⟨b, off + k, none⟩ = some (.int .u8 (R : Int))) := fun W hb => by rw [eR]; exact (hb.cell (p := ⟨b, off + k, none⟩) HBL.out).trans (HI.out k hlt)
    have hbump : D.bump (soS u X R) = soS u X1 R := by rw [eX1, eX]; exact HC.out.bump (by omega) R
    have hsv := HC.out.calm.live.saves (by decide) (soS_may u X1 R)
    have hnext : D.nextS (soS u X R) = soS u X1 R := by unfold Dr.nextS; rw [hbump, hsv.1, if_pos rfl]
    have hN := fun (W : World) (h : Has w W p a D (supL (lastS u A roles k))) => h.next (soS u X R) (soS_bd HU.out (by omega)) (by rw [HC.out.calm.live.len]; decide) HC.out.calm.lens
    rw [hnext, hbump, hsv.1, hsv.2] at hN
    have hC1 : Chain (D.savedD (soS u X1 R)) u A roles (k + 1) := by rw [eX1, eX, eR]; exact HC.out.step HU.out (by omega)
    have hl1 : lastS u A roles (k + 1) = soS u X1 R := by rw [lastS_succ, eX1, eX, eR]
    obtain ⟨D1, eD1⟩ : ∃ D1, D1 = D.savedD (soS u X1 R) := ⟨_, rfl⟩
    rw [← eD1] at hC1 hN
    obtain ⟨S1, eS1⟩ : ∃ S1, S1 = soS u X1 R := ⟨_, rfl⟩
    have hs0 := fun W => some9_any u X R hR8 W
    have hs1 := fun W => some9_any u X1 R hR8 W
    rw [← eS1] at hN hl1 hs1
    obtain ⟨l0, el0, L0⟩ := sup_letter (soS u X R)
    obtain ⟨l1, el1, L1⟩ := sup_letter S1
    obtain ⟨lp, elp, LP⟩ := sup_letter (lastS u A roles k)
    have hlo := hC1.load (Nat.succ_pos k)
    rw [hl1] at hlo
    have hLoad := fun (W : World) (h : Has w W p a D1 lp) => h.load
    rw [hlo.1, hlo.2] at hLoad
    rw [el0] at hs0 hN
    rw [el1] at hs1 hLoad hN
    rw [elp] at hN HH
    have hEq := fun W => eqSupL el1 el1 W
    rw [decide_eq_true rfl] at hEq
    have HC1 : Hid (Chain D1 u A roles (k + 1)) := hC1
    have HX : Hid (X1 = A + k + 1 ∧ X = A + k) := ⟨by rw [eX1, eX], eX⟩
    have HL1S : Hid (lastS u A roles (k + 1) = S1 ∧ supL S1 = l1 ∧ supL (lastS u A roles k) = lp) := ⟨hl1, el1, elp⟩
    have HS0 : Hid _ := hs0
    have HS1 : Hid _ := hs1
    have HNX : Hid _ := hN
    have HLD : Hid _ := hLoad
    have HL1 : Hid _ := L1
    have HLP : Hid _ := LP
    have HEQ : Hid _ := hEq
    have HX60 : Hid (X1 < 1152921504606847100) := hX60
    rw [← eX]
    clear HC hbump hsv hnext hN hC1 hl1 eD1 eS1 hs0 hs1 el0 el1 elp L0 L1 LP hlo hLoad hEq hR8 eX eX1 eR hA60 hn60
    go_wp2_with fail
    refine (HS0.out _).mono ?_
    rintro e w4 ⟨rfl, b4⟩
    have H4 : Hid (Has w w4 p a D lp) := HH.out.below b4
    clear b4 hcur
    go_wp2_with fail
    refine (HNX.out w4 H4.out).mono ?_
    rintro e w5 ⟨rfl, h5, s5⟩
    have H5 : Hid (Has w w5 p a D1 lp) := h5
    have T5 : Hid (∀ C : Array Value, C.size = 10 → (w5.alloc (.cells C 30)).there w5.heap.size 0 l1.toArray.size) := fun C hC => by rw [HL1.out.size]; exact there_new w5 C _ 10 (by omega)
    clear h5 s5
    go_upto_region 13 with (first
      | (refine wpList_store_mid rfl 30 _ _ rfl w5.heap.size 0 l1.toArray rfl rfl (T5.out _ rfl) HL1.out.infoA HL1.out.one ?_; change wpList _ _ _ _ _ (World.setCells _ _ _ l1)))
    obtain ⟨w6, hw6⟩ : ∃ w6, w6 = (w5.alloc (.cells (supL Sup.none).toArray 30)).setCells w5.heap.size 0 l1 := ⟨_, rfl⟩
    change Code.wp _ _ _ _ ((w5.alloc (.cells (supL Sup.none).toArray 30)).setCells w5.heap.size 0 l1)
    have hb6 : Below w5.heap.size w5 ((w5.alloc (.cells (supL Sup.none).toArray 30)).setCells w5.heap.size 0 l1) := ((Below.refl _ w5).alloc (Nat.le_refl _) _).trans (below_setCells (Nat.le_refl _) _)
    have hr6 := World.rangeAt_setCells_same (w5.alloc (.cells (supL Sup.none).toArray 30)) w5.heap.size 0 l1 (T5.out _ rfl)
    have hs6 : ((w5.alloc (.cells (supL Sup.none).toArray 30)).setCells w5.heap.size 0 l1).heap.size = w5.heap.size + 1 := by rw [size_setCells, World.size_alloc]
    rw [← hw6] at hb6 hr6 hs6 ⊢
    have H6 : Hid (Has w w6 p a D1 lp) := H5.out.below hb6
    have hS0 : Keep1 w6 w5.heap.size l1 w6.heap.size w6.drew ∧ w6.drew.cell? ⟨b, off + k, none⟩ = some (.int .u8 (R : Int)) :=
      ⟨⟨(World.rangeAt_drew _ _ _ _).2 hr6, by show w5.heap.size < w6.heap.size; rw [hs6]; exact Nat.lt_succ_self _, (Below.refl _ _).drew⟩, HCUR.out w6 H6.out.low⟩
    have hEqA := HEQ.out
    clear hw6 hb6 hr6 hs6 T5 H4
    refine region_det (fun W => Keep1 w6 w5.heap.size l1 w6.heap.size W ∧ W.cell? ⟨b, off + k, none⟩ = some (.int .u8 (R : Int))) HMX.out (by kernel_rfl) hS0 ?_
    refine det_read 0 (v := ?vx2) rfl (by kernel_rfl) rfl ?hyx2 ?restx2
    case hyx2 => (intro wS hSw; (try dsimp only at hSw); go_simp; try with_reducible rfl)
    try simp only [Act.put, List.setIfInBounds_toArray, List.set_cons_zero, List.set_cons_succ]
    refine det_read 1 (v := ?vx3) rfl (by kernel_rfl) rfl ?hyx3 ?restx3
    case hyx3 => (intro wS hSw; (try dsimp only at hSw); go_simp; try with_reducible rfl)
    try simp only [Act.put, List.setIfInBounds_toArray, List.set_cons_zero, List.set_cons_succ]
    refine det_read 2 (v := ?vx4) rfl (by kernel_rfl) rfl ?hyx4 ?restx4
    case hyx4 => (intro wS hSw; (try dsimp only at hSw); go_simp; try with_reducible rfl)
    try simp only [Act.put, List.setIfInBounds_toArray, List.set_cons_zero, List.set_cons_succ]
    refine det_read 3 (v := .agg l1.toArray) rfl (by kernel_rfl) rfl ?hyx1 ?restx1
    case hyx1 => (intro wS hSw; exact (by apply exec_load HL1.out (hc := hSw.1.1) <;> rfl))
    try simp only [Act.put, List.setIfInBounds_toArray, List.set_cons_zero, List.set_cons_succ]
    refine det_read 4 (v := ?vx5) rfl (by kernel_rfl) rfl ?hyx5 ?restx5
    case hyx5 => (intro wS hSw; (try dsimp only at hSw); go_simp; try with_reducible rfl)
    try simp only [Act.put, List.setIfInBounds_toArray, List.set_cons_zero, List.set_cons_succ]
    refine det_read 5 (v := ?vx6) rfl (by kernel_rfl) rfl ?hyx6 ?restx6
    case hyx6 => (intro wS hSw; (try dsimp only at hSw); go_simp; try with_reducible rfl)
    try simp only [Act.put, List.setIfInBounds_toArray, List.set_cons_zero, List.set_cons_succ]
    refine det_read 6 (v := ?vx7) rfl (by kernel_rfl) rfl ?hyx7 ?restx7
    case hyx7 => (intro wS hSw; (try dsimp only at hSw); go_simp; try with_reducible rfl)
    try simp only [Act.put, List.setIfInBounds_toArray, List.set_cons_zero, List.set_cons_succ]
    refine det_read 7 (v := ?vx8) rfl (by kernel_rfl) rfl ?hyx8 ?restx8
    case hyx8 => (intro wS hSw; (try dsimp only at hSw); go_simp; try with_reducible rfl)
    try simp only [Act.put, List.setIfInBounds_toArray, List.set_cons_zero, List.set_cons_succ]
    refine det_read 8 (v := ?vx9) rfl (by kernel_rfl) rfl ?hyx9 ?restx9
    case hyx9 => (intro wS hSw; (try dsimp only at hSw); go_simp; try with_reducible rfl)
    try simp only [Act.put, List.setIfInBounds_toArray, List.set_cons_zero, List.set_cons_succ]
    refine det_read 9 (v := ?vx10) rfl (by kernel_rfl) rfl ?hyx10 ?restx10
    case hyx10 => (intro wS hSw; (try dsimp only at hSw); go_simp; try with_reducible rfl)
    try simp only [Act.put, List.setIfInBounds_toArray, List.set_cons_zero, List.set_cons_succ]
    refine det_call 10 rfl (by kernel_rfl) rfl ?hyx13 (fun W h => keepc_det (HS1.out W) h) ?restx13
    case hyx13 => (intro wS hSw; go_simp; try with_reducible rfl)
    try simp only [Act.put, List.setIfInBounds_toArray, List.set_cons_zero, List.set_cons_succ]
    refine det_read 11 (v := ?vx11) rfl (by kernel_rfl) rfl ?hyx11 ?restx11
    case hyx11 => (intro wS hSw; (try dsimp only at hSw); go_simp; try with_reducible rfl)
    try simp only [Act.put, List.setIfInBounds_toArray, List.set_cons_zero, List.set_cons_succ]
    refine det_read 12 (v := ?vx12) rfl (by kernel_rfl) rfl ?hyx12 ?restx12
    case hyx12 => (intro wS hSw; (try dsimp only at hSw); go_simp; try with_reducible rfl)
    try simp only [Act.put, List.setIfInBounds_toArray, List.set_cons_zero, List.set_cons_succ]
    refine det_done (by kernel_rfl) ?_
    intro w7 hW7
    have H7 : Hid (Has w w7 p a D1 lp) := H6.out.below hW7.1.2.2
    have R7 : Hid (w7.rangeAt w5.heap.size 0 l1 ∧ w5.heap.size < w7.heap.size) := ⟨hW7.1.1, hW7.1.2.1⟩
    clear hS0 hW7 hEqA
    go_wp2_with fail
    refine (HLD.out w7 H7.out).mono ?_
    rintro e w8 ⟨rfl, b8⟩
    have H8 : Hid (Has w w8 p a D1 lp) := H7.out.below b8
    have R8 : Hid (w8.rangeAt w5.heap.size 0 l1 ∧ w5.heap.size < w8.heap.size) := ⟨range_below R7.out.1 R7.out.2 b8, Nat.lt_of_lt_of_le R7.out.2 b8.size⟩
    have T8 : Hid (∀ C : Array Value, C.size = 10 → (w8.alloc (.cells C 30)).there w8.heap.size 0 l1.toArray.size) := fun C hC => by rw [HL1.out.size]; exact there_new w8 C _ 10 (by omega)
    clear b8
    go_upto_region 16 with (first
      | (refine wpList_store_mid rfl 30 _ _ rfl w8.heap.size 0 l1.toArray rfl rfl (T8.out _ rfl) HL1.out.infoA HL1.out.one ?_; change wpList _ _ _ _ _ (World.setCells _ _ _ l1)))
    obtain ⟨w9, hw9⟩ : ∃ w9, w9 = (w8.alloc (.cells (supL Sup.none).toArray 30)).setCells w8.heap.size 0 l1 := ⟨_, rfl⟩
    change Code.wp _ _ _ _ ((w8.alloc (.cells (supL Sup.none).toArray 30)).setCells w8.heap.size 0 l1)
    have hb9 : Below w8.heap.size w8 ((w8.alloc (.cells (supL Sup.none).toArray 30)).setCells w8.heap.size 0 l1) := ((Below.refl _ w8).alloc (Nat.le_refl _) _).trans (below_setCells (Nat.le_refl _) _)
    have hr9 := World.rangeAt_setCells_same (w8.alloc (.cells (supL Sup.none).toArray 30)) w8.heap.size 0 l1 (T8.out _ rfl)
    have hs9 : ((w8.alloc (.cells (supL Sup.none).toArray 30)).setCells w8.heap.size 0 l1).heap.size = w8.heap.size + 1 := by rw [size_setCells, World.size_alloc]
    rw [← hw9] at hb9 hr9 hs9 ⊢
    have H9 : Hid (Has w w9 p a D1 lp) := H8.out.below hb9
    have R9 : Hid (w9.rangeAt w5.heap.size 0 l1 ∧ w9.rangeAt w8.heap.size 0 l1 ∧ w5.heap.size < w9.heap.size ∧ w8.heap.size < w9.heap.size) := ⟨range_below R8.out.1 R8.out.2 hb9, hr9, by rw [hs9]; have := R8.out.2; omega, by rw [hs9]; exact Nat.lt_succ_self _⟩
    clear hw9 hb9 hr9 hs9 T8
    have hBo := H9.out.both
    obtain ⟨q0, eq0, Q0⟩ := sup_letter (D1.slS 0)
    obtain ⟨q1, eq1, Q1⟩ := sup_letter (D1.slS 1)
    obtain ⟨b0, eb0⟩ : ∃ b, b = D1.slB 0 := ⟨_, rfl⟩
    obtain ⟨b1, eb1⟩ : ∃ b, b = D1.slB 1 := ⟨_, rfl⟩
    rw [eq0, eq1, ← eb0, ← eb1] at hBo
    have HQE : Hid (supL (D1.slS 0) = q0 ∧ supL (D1.slS 1) = q1 ∧ b0 = D1.slB 0 ∧ b1 = D1.slB 1) := ⟨eq0, eq1, eb0, eb1⟩
    have HQ0 : Hid (q0.length = 10) := Q0.len
    have HQ1 : Hid (q1.length = 10) := Q1.len
    have hLone : (q0 ++ q1).toArray.all (·.oneCell') = true := by
      rw [← eq0, ← eq1]
      exact all_oneCell_toArray fun v hv => by
        have a0 := Array.all_eq_true_iff_forall_mem.1 (supL_one (D1.slS 0))
        have a1 := Array.all_eq_true_iff_forall_mem.1 (supL_one (D1.slS 1))
        rcases List.mem_append.1 hv with h | h
        · exact a0 v (by simpa using h)
        · exact a1 v (by simpa using h)
    obtain ⟨L, eL⟩ : ∃ L, q0 ++ q1 = L := ⟨_, rfl⟩
    have hL20 : L.length = 20 := by rw [← eL, List.length_append, Q0.len, Q1.len]
    rw [eL] at hBo hLone
    have HLA : Hid (L.length = 20 ∧ L.toArray.all (·.oneCell') = true ∧ L.toArray.size = 20) := ⟨hL20, hLone, hL20⟩
    have HLE : Hid (q0 ++ q1 = L) := eL
    clear eq0 eq1 eb0 eb1 Q0 Q1 hLone eL hL20
    go_wp2_with fail
    refine hBo.mono ?_
    rintro e w10 ⟨rfl, b10⟩
    have H10 : Hid (Has w w10 p a D1 lp) := H9.out.below b10
    have R10 : Hid (w10.rangeAt w5.heap.size 0 l1 ∧ w10.rangeAt w8.heap.size 0 l1 ∧ w5.heap.size < w10.heap.size ∧ w8.heap.size < w10.heap.size) := ⟨range_below R9.out.1 R9.out.2.2.1 b10, range_below R9.out.2.1 R9.out.2.2.2 b10, Nat.lt_of_lt_of_le R9.out.2.2.1 b10.size, Nat.lt_of_lt_of_le R9.out.2.2.2 b10.size⟩
    have TA : Hid (∀ C E : Array Value, C.size = 20 → ((w10.alloc (.cells C 36)).alloc (.cells E 37)).there w10.heap.size 0 L.toArray.size) := fun C E hC => by rw [HLA.out.2.2]; exact World.there_alloc (there_new w10 C _ 20 (by omega)) _
    have TB : Hid (∀ C E : Array Value, C.size = 20 → E.size = 2 → (((w10.alloc (.cells C 36)).alloc (.cells E 37)).setCells w10.heap.size 0 L).there (w10.heap.size + 1) 0 2) := fun C E hC hE => World.there_setCells (both_start w10 C E _ _ hC hE).2.2.2 _ _ _
    clear hBo b10
    go_upto_region 17 with (first
      | (refine wpList_store_mid rfl 36 _ _ rfl w10.heap.size 0 L.toArray rfl rfl (TA.out _ _ rfl) (info_sup2.trans (by rw [HLA.out.2.2])) HLA.out.2.1 ?_; change wpList _ _ _ _ _ (World.setCells _ _ _ L))
      | (refine wpList_store_mid rfl 37 _ _ rfl (w10.heap.size + 1) 0 #[.bool b0, .bool b1] rfl rfl (TB.out _ _ rfl rfl) info_bool2 (bools_one b0 b1) ?_; change wpList _ _ _ _ _ (World.setCells _ _ _ [.bool b0, .bool b1])))
    obtain ⟨V, hV⟩ : ∃ V, V = (((w10.alloc (.cells (supL Sup.none ++ supL Sup.none).toArray 36)).alloc (.cells #[.bool false, .bool false] 37)).setCells w10.heap.size 0 L).setCells (w10.heap.size + 1) 0 [.bool b0, .bool b1] := ⟨_, rfl⟩
    change Code.wp _ _ _ _ ((((w10.alloc (.cells (supL Sup.none ++ supL Sup.none).toArray 36)).alloc (.cells #[.bool false, .bool false] 37)).setCells w10.heap.size 0 L).setCells (w10.heap.size + 1) 0 [.bool b0, .bool b1])
    have hlow : Below w10.heap.size w10 ((((w10.alloc (.cells (supL Sup.none ++ supL Sup.none).toArray 36)).alloc (.cells #[.bool false, .bool false] 37)).setCells w10.heap.size 0 L).setCells (w10.heap.size + 1) 0 [.bool b0, .bool b1]) :=
      ((both_start w10 _ _ _ _ rfl rfl).1.trans (below_setCells (Nat.le_refl _) _)).trans (below_setCells (Nat.le_succ _) _)
    have hr1 := World.rangeAt_setCells_same ((w10.alloc (.cells (supL Sup.none ++ supL Sup.none).toArray 36)).alloc (.cells #[.bool false, .bool false] 37)) w10.heap.size 0 L (TA.out _ _ rfl)
    have hr2 := World.rangeAt_setCells_apart hr1 (w10.heap.size + 1) 0 [.bool b0, .bool b1] (.inl (by omega))
    have hr3 := World.rangeAt_setCells_same (((w10.alloc (.cells (supL Sup.none ++ supL Sup.none).toArray 36)).alloc (.cells #[.bool false, .bool false] 37)).setCells w10.heap.size 0 L) (w10.heap.size + 1) 0 [.bool b0, .bool b1] (TB.out _ _ rfl rfl)
    rw [← hV] at hlow hr2 hr3 ⊢
    have HV : Hid (Has w V p a D1 lp) := H10.out.below hlow
    have RV : Hid (V.rangeAt w5.heap.size 0 l1 ∧ V.rangeAt w8.heap.size 0 l1 ∧ V.rangeAt w10.heap.size 0 (q0 ++ q1)) := ⟨range_below R10.out.1 R10.out.2.2.1 hlow, range_below R10.out.2.1 R10.out.2.2.2 hlow, by rw [HLE.out]; exact hr2⟩
    have i0 : V.cell? ⟨w10.heap.size + 1, 0, none⟩ = some (.bool b0) := hr3 0 _ rfl
    have i1 : V.cell? ⟨w10.heap.size + 1, 1, none⟩ = some (.bool b1) := hr3 1 _ rfl
    clear hlow hr1 hr2 hr3 hV TA TB H5 H6 H7 H8 H9 H10 R7 R8 R9 R10 HS0 HS1 HNX HLD HLE
    by_cases hk0 : k = 0
    case pos =>
      have HK0 : Hid (k = 0) := hk0
      have d0 : ¬ (0 : Int) < (k : Int) := by omega
      have d00 : decide ((0 : Int) < (k : Int)) = false := by rw [decide_eq_false_iff_not]; exact d0
      obtain ⟨x0, x1, x2, x3, x4, x5, x6, x7, x8, x9, hx⟩ := list10 HL1.out.len
      obtain ⟨c0, c1, c2, c3, c4, c5, c6, c7, c8, c9⟩ := cells10n RV.out.1 hx
      obtain ⟨e0, e1, e2, e3, e4, e5, e6, e7, e8, e9⟩ := cells10n RV.out.2.1 hx
      have hEq := HEQ.out
      rw [hx] at hEq
      clear hk0 hx
      go_upto_region 19 with fail
      clear c0 c1 c2 c3 c4 c5 c6 c7 c8 c9 e0 e1 e2 e3 e4 e5 e6 e7 e8 e9 hEq i0 i1
      by_cases hkn : k + 1 = n
      · have g1 : ((k : Int) == (n : Int) - 1) = true := by rw [beq_iff_eq]; omega
        clear hkn
        have TAa : Hid (V.there a 0 l1.toArray.size) := by rw [HL1.out.size]; obtain ⟨F, hF⟩ := HV.out; exact hF.t
        go_wp2_with (first
          | (refine wpList_load_mid rfl 30 _ rfl w5.heap.size 0 rfl l1 _ RV.out.1 Try.underlying30 rfl HL1.out.info ?_)
          | (refine wpList_store_mid rfl 30 _ _ rfl a 0 l1.toArray rfl rfl TAa.out HL1.out.infoA HL1.out.one ?_; change wpList _ _ _ _ _ (World.setCells _ _ _ l1)))
        go_roundg (n - (k + 1))
        case measure => omega
        case rel => exact ⟨k + 1, D1, by omega, rfl, by rw [HX.out.1]; rfl, by go_num, HC1.out, by rw [HL1S.out.1, HL1S.out.2.1]; exact HV.out.set HL1.out.len⟩
      · have g1 : ((k : Int) == (n : Int) - 1) = false := by rw [beq_eq_false_iff_ne]; omega
        clear hkn
        have TAa : Hid (V.there a 0 l1.toArray.size) := by rw [HL1.out.size]; obtain ⟨F, hF⟩ := HV.out; exact hF.t
        go_wp2_with (first
          | (refine wpList_load_mid rfl 30 _ rfl w5.heap.size 0 rfl l1 _ RV.out.1 Try.underlying30 rfl HL1.out.info ?_)
          | (refine wpList_store_mid rfl 30 _ _ rfl a 0 l1.toArray rfl rfl TAa.out HL1.out.infoA HL1.out.one ?_; change wpList _ _ _ _ _ (World.setCells _ _ _ l1)))
        go_roundg (n - (k + 1))
        case measure => omega
        case rel => exact ⟨k + 1, D1, by omega, rfl, by rw [HX.out.1]; rfl, by go_num, HC1.out, by rw [HL1S.out.1, HL1S.out.2.1]; exact HV.out.set HL1.out.len⟩
    case neg =>
      have d0 : (0 : Int) < (k : Int) := by omega
      have d00 : decide ((0 : Int) < (k : Int)) = true := by rw [decide_eq_true_iff]; exact d0
      have hpar : HalfFacts D1 X (lastS u A roles k) S1 := half_facts HC1.out HX.out.1 HX.out.2 HL1S.out.1 hk0
      have HK0 : Hid (k ≠ 0) := hk0
      have hneS : S1 ≠ lastS u A roles k := by
        intro e
        have h1 := congrArg Su.ev e
        rw [← HL1S.out.1, lastS_succ] at h1
        unfold lastS at h1
        rw [if_neg hk0] at h1
        have h2 : A + k + 1 = A + k := h1
        omega
      have hEqN := fun W => eqSupL HL1S.out.2.1 HL1S.out.2.2 W
      rw [decide_eq_false hneS] at hEqN
      have hEqP := fun W => eqSupL HL1S.out.2.2 HL1S.out.2.2 W
      rw [decide_eq_true rfl] at hEqP
      have hEq := HEQ.out
      have hb01 : b0 = true ∧ b1 = true := ⟨HQE.out.2.2.1.trans hpar.1, HQE.out.2.2.2.trans hpar.2.1⟩
      obtain ⟨r1, r2⟩ := range_parts RV.out.2.2 HQ0.out
      have hra := (show w.rangeAt a 0 [] → V.rangeAt a 0 lp from fun _ => by obtain ⟨F, hF⟩ := HV.out; exact hF.r) (fun j v hv => by simp at hv)
      rw [hb01.1] at i0
      rw [hb01.2] at i1
      obtain ⟨x0, x1, x2, x3, x4, x5, x6, x7, x8, x9, hx⟩ := list10 HL1.out.len
      obtain ⟨y0, y1, y2, y3, y4, y5, y6, y7, y8, y9, hy⟩ := list10 HLP.out.len
      obtain ⟨c0, c1, c2, c3, c4, c5, c6, c7, c8, c9⟩ := cells10n RV.out.1 hx
      obtain ⟨e0, e1, e2, e3, e4, e5, e6, e7, e8, e9⟩ := cells10n RV.out.2.1 hx
      obtain ⟨m0, m1, m2, m3, m4, m5, m6, m7, m8, m9⟩ := cells10n hra hy
      rw [hx, hy] at hEqN
      rw [hy] at hEqP
      rw [hx] at hEq
      have HRA : Hid (V.rangeAt a 0 lp) := hra
      rcases hpar.2.2 with ⟨hp0, hp1⟩ | ⟨hp0, hp1⟩
      · have hq0 : q0 = lp := by rw [← HQE.out.1, hp0, HL1S.out.2.2]
        have hq1 : q1 = l1 := by rw [← HQE.out.2.1, hp1, HL1S.out.2.1]
        rw [hq0] at r1
        rw [hq1] at r2
        obtain ⟨n0, n1, n2, n3, n4, n5, n6, n7, n8, n9⟩ := cells10n r1 hy
        obtain ⟨o0, o1, o2, o3, o4, o5, o6, o7, o8, o9⟩ := cells10t r2 hx
        clear hx hy hp0 hp1 hq0 hq1 r1 r2 hra hpar hneS hb01 hk0
        go_upto_region 19 with fail
        clear c0 c1 c2 c3 c4 c5 c6 c7 c8 c9 e0 e1 e2 e3 e4 e5 e6 e7 e8 e9 m0 m1 m2 m3 m4 m5 m6 m7 m8 m9 n0 n1 n2 n3 n4 n5 n6 n7 n8 n9 o0 o1 o2 o3 o4 o5 o6 o7 o8 o9 hEq hEqN hEqP i0 i1
        by_cases hkn : k + 1 = n
        · have g1 : ((k : Int) == (n : Int) - 1) = true := by rw [beq_iff_eq]; omega
          clear hkn
          cases sp
          case false =>
            have TAa : Hid (V.there a 0 l1.toArray.size) := by rw [HL1.out.size]; obtain ⟨F, hF⟩ := HV.out; exact hF.t
            go_wp2_with (first
              | (refine wpList_load_mid rfl 30 _ rfl w5.heap.size 0 rfl l1 _ RV.out.1 Try.underlying30 rfl HL1.out.info ?_)
              | (refine wpList_store_mid rfl 30 _ _ rfl a 0 l1.toArray rfl rfl TAa.out HL1.out.infoA HL1.out.one ?_; change wpList _ _ _ _ _ (World.setCells _ _ _ l1)))
            go_roundg (n - (k + 1))
            case measure => omega
            case rel => exact ⟨k + 1, D1, by omega, rfl, by rw [HX.out.1]; rfl, by go_num, HC1.out, by rw [HL1S.out.1, HL1S.out.2.1]; exact HV.out.set HL1.out.len⟩
          case true =>
            obtain ⟨j, ej⟩ : ∃ j, j = X1 % 2 := ⟨_, rfl⟩
            have hj2 : j < 2 := by rw [ej]; exact Nat.mod_lt _ (by decide)
            have hji : (X1 : Int) % 2 = (j : Int) := by omega
            have hsp := HV.out.spoil HC1.out.calm.live j hj2
            have hls := spoil_loads HC1.out (by obtain ⟨F, hF⟩ := HV.out; exact hF.d.ok.spoilt) (show j = (A + k + 1) % 2 by rw [ej, HX.out.1]) HK0.out
            obtain ⟨D2, eD2⟩ : ∃ D2, D2 = D1.spoil j := ⟨_, rfl⟩
            rw [← eD2] at hsp hls
            have hLd := fun (W : World) (h : Has w W p a D2 lp) => h.load
            rw [hls.1, hls.2, HL1S.out.2.2] at hLd
            have HLd : Hid _ := hLd
            have hEqP := fun W => eqSupL HL1S.out.2.2 HL1S.out.2.2 W
            rw [decide_eq_true rfl] at hEqP
            have HEP : Hid _ := hEqP
            clear ej hj2 hls eD2 hLd hEqP
            go_wp2_with fail
            refine hsp.mono ?_
            rintro e w11 ⟨rfl, h11⟩
            have H11 : Hid (Has w w11 p a D2 lp) := h11
            clear hsp h11
            go_wp2_with fail
            refine (HLd.out w11 H11.out).mono ?_
            rintro e w12 ⟨rfl, b12⟩
            have H12 : Hid (Has w w12 p a D2 lp) := H11.out.below b12
            have T12 : Hid (∀ C : Array Value, C.size = 10 → (w12.alloc (.cells C 30)).there w12.heap.size 0 lp.toArray.size) := fun C hC => by rw [HLP.out.size]; exact there_new w12 C _ 10 (by omega)
            clear b12
            go_upto_region 22 with (first
              | (refine wpList_store_mid rfl 30 _ _ rfl w12.heap.size 0 lp.toArray rfl rfl (T12.out _ rfl) HLP.out.infoA HLP.out.one ?_; change wpList _ _ _ _ _ (World.setCells _ _ _ lp)))
            obtain ⟨w13, hw13⟩ : ∃ w13, w13 = (w12.alloc (.cells (supL Sup.none).toArray 30)).setCells w12.heap.size 0 lp := ⟨_, rfl⟩
            change Code.wp _ _ _ _ ((w12.alloc (.cells (supL Sup.none).toArray 30)).setCells w12.heap.size 0 lp)
            have hb13 : Below w12.heap.size w12 ((w12.alloc (.cells (supL Sup.none).toArray 30)).setCells w12.heap.size 0 lp) := ((Below.refl _ w12).alloc (Nat.le_refl _) _).trans (below_setCells (Nat.le_refl _) _)
            have hr13 := World.rangeAt_setCells_same (w12.alloc (.cells (supL Sup.none).toArray 30)) w12.heap.size 0 lp (T12.out _ rfl)
            rw [← hw13] at hb13 hr13 ⊢
            have H13 : Hid (Has w w13 p a D2 lp) := H12.out.below hb13
            have hra : w13.rangeAt a 0 lp := by obtain ⟨F, hF⟩ := H13.out; exact hF.r
            obtain ⟨y0, y1, y2, y3, y4, y5, y6, y7, y8, y9, hy⟩ := list10 HLP.out.len
            obtain ⟨c0, c1, c2, c3, c4, c5, c6, c7, c8, c9⟩ := cells10n hr13 hy
            obtain ⟨e0, e1, e2, e3, e4, e5, e6, e7, e8, e9⟩ := cells10n hra hy
            have hEqP := HEP.out
            rw [hy] at hEqP
            clear hy hra hr13 hw13 hb13 T12
            go_wp2
            go_ret
            exact ⟨rfl, H13.out.low⟩
        · have g1 : ((k : Int) == (n : Int) - 1) = false := by rw [beq_eq_false_iff_ne]; omega
          clear hkn
          have TAa : Hid (V.there a 0 l1.toArray.size) := by rw [HL1.out.size]; obtain ⟨F, hF⟩ := HV.out; exact hF.t
          go_wp2_with (first
            | (refine wpList_load_mid rfl 30 _ rfl w5.heap.size 0 rfl l1 _ RV.out.1 Try.underlying30 rfl HL1.out.info ?_)
            | (refine wpList_store_mid rfl 30 _ _ rfl a 0 l1.toArray rfl rfl TAa.out HL1.out.infoA HL1.out.one ?_; change wpList _ _ _ _ _ (World.setCells _ _ _ l1)))
          go_roundg (n - (k + 1))
          case measure => omega
          case rel => exact ⟨k + 1, D1, by omega, rfl, by rw [HX.out.1]; rfl, by go_num, HC1.out, by rw [HL1S.out.1, HL1S.out.2.1]; exact HV.out.set HL1.out.len⟩
      · have hq0 : q0 = l1 := by rw [← HQE.out.1, hp0, HL1S.out.2.1]
        have hq1 : q1 = lp := by rw [← HQE.out.2.1, hp1, HL1S.out.2.2]
        rw [hq0] at r1
        rw [hq1] at r2
        obtain ⟨n0, n1, n2, n3, n4, n5, n6, n7, n8, n9⟩ := cells10n r1 hx
        obtain ⟨o0, o1, o2, o3, o4, o5, o6, o7, o8, o9⟩ := cells10t r2 hy
        clear hx hy hp0 hp1 hq0 hq1 r1 r2 hra hpar hneS hb01 hk0
        go_upto_region 19 with fail
        clear c0 c1 c2 c3 c4 c5 c6 c7 c8 c9 e0 e1 e2 e3 e4 e5 e6 e7 e8 e9 m0 m1 m2 m3 m4 m5 m6 m7 m8 m9 n0 n1 n2 n3 n4 n5 n6 n7 n8 n9 o0 o1 o2 o3 o4 o5 o6 o7 o8 o9 hEq hEqN hEqP i0 i1
        by_cases hkn : k + 1 = n
        · have g1 : ((k : Int) == (n : Int) - 1) = true := by rw [beq_iff_eq]; omega
          clear hkn
          cases sp
          case false =>
            have TAa : Hid (V.there a 0 l1.toArray.size) := by rw [HL1.out.size]; obtain ⟨F, hF⟩ := HV.out; exact hF.t
            go_wp2_with (first
              | (refine wpList_load_mid rfl 30 _ rfl w5.heap.size 0 rfl l1 _ RV.out.1 Try.underlying30 rfl HL1.out.info ?_)
              | (refine wpList_store_mid rfl 30 _ _ rfl a 0 l1.toArray rfl rfl TAa.out HL1.out.infoA HL1.out.one ?_; change wpList _ _ _ _ _ (World.setCells _ _ _ l1)))
            go_roundg (n - (k + 1))
            case measure => omega
            case rel => exact ⟨k + 1, D1, by omega, rfl, by rw [HX.out.1]; rfl, by go_num, HC1.out, by rw [HL1S.out.1, HL1S.out.2.1]; exact HV.out.set HL1.out.len⟩
          case true =>
            obtain ⟨j, ej⟩ : ∃ j, j = X1 % 2 := ⟨_, rfl⟩
            have hj2 : j < 2 := by rw [ej]; exact Nat.mod_lt _ (by decide)
            have hji : (X1 : Int) % 2 = (j : Int) := by omega
            have hsp := HV.out.spoil HC1.out.calm.live j hj2
            have hls := spoil_loads HC1.out (by obtain ⟨F, hF⟩ := HV.out; exact hF.d.ok.spoilt) (show j = (A + k + 1) % 2 by rw [ej, HX.out.1]) HK0.out
            obtain ⟨D2, eD2⟩ : ∃ D2, D2 = D1.spoil j := ⟨_, rfl⟩
            rw [← eD2] at hsp hls
            have hLd := fun (W : World) (h : Has w W p a D2 lp) => h.load
            rw [hls.1, hls.2, HL1S.out.2.2] at hLd
            have HLd : Hid _ := hLd
            have hEqP := fun W => eqSupL HL1S.out.2.2 HL1S.out.2.2 W
            rw [decide_eq_true rfl] at hEqP
            have HEP : Hid _ := hEqP
            clear ej hj2 hls eD2 hLd hEqP
            go_wp2_with fail
            refine hsp.mono ?_
            rintro e w11 ⟨rfl, h11⟩
            have H11 : Hid (Has w w11 p a D2 lp) := h11
            clear hsp h11
            go_wp2_with fail
            refine (HLd.out w11 H11.out).mono ?_
            rintro e w12 ⟨rfl, b12⟩
            have H12 : Hid (Has w w12 p a D2 lp) := H11.out.below b12
            have T12 : Hid (∀ C : Array Value, C.size = 10 → (w12.alloc (.cells C 30)).there w12.heap.size 0 lp.toArray.size) := fun C hC => by rw [HLP.out.size]; exact there_new w12 C _ 10 (by omega)
            clear b12
            go_upto_region 22 with (first
              | (refine wpList_store_mid rfl 30 _ _ rfl w12.heap.size 0 lp.toArray rfl rfl (T12.out _ rfl) HLP.out.infoA HLP.out.one ?_; change wpList _ _ _ _ _ (World.setCells _ _ _ lp)))
            obtain ⟨w13, hw13⟩ : ∃ w13, w13 = (w12.alloc (.cells (supL Sup.none).toArray 30)).setCells w12.heap.size 0 lp := ⟨_, rfl⟩
            change Code.wp _ _ _ _ ((w12.alloc (.cells (supL Sup.none).toArray 30)).setCells w12.heap.size 0 lp)
            have hb13 : Below w12.heap.size w12 ((w12.alloc (.cells (supL Sup.none).toArray 30)).setCells w12.heap.size 0 lp) := ((Below.refl _ w12).alloc (Nat.le_refl _) _).trans (below_setCells (Nat.le_refl _) _)
            have hr13 := World.rangeAt_setCells_same (w12.alloc (.cells (supL Sup.none).toArray 30)) w12.heap.size 0 lp (T12.out _ rfl)
            rw [← hw13] at hb13 hr13 ⊢
            have H13 : Hid (Has w w13 p a D2 lp) := H12.out.below hb13
            have hra : w13.rangeAt a 0 lp := by obtain ⟨F, hF⟩ := H13.out; exact hF.r
            obtain ⟨y0, y1, y2, y3, y4, y5, y6, y7, y8, y9, hy⟩ := list10 HLP.out.len
            obtain ⟨c0, c1, c2, c3, c4, c5, c6, c7, c8, c9⟩ := cells10n hr13 hy
            obtain ⟨e0, e1, e2, e3, e4, e5, e6, e7, e8, e9⟩ := cells10n hra hy
            have hEqP := HEP.out
            rw [hy] at hEqP
            clear hy hra hr13 hw13 hb13 T12
            go_wp2
            go_ret
            exact ⟨rfl, H13.out.low⟩
        · have g1 : ((k : Int) == (n : Int) - 1) = false := by rw [beq_eq_false_iff_ne]; omega
          clear hkn
          have TAa : Hid (V.there a 0 l1.toArray.size) := by rw [HL1.out.size]; obtain ⟨F, hF⟩ := HV.out; exact hF.t
          go_wp2_with (first
            | (refine wpList_load_mid rfl 30 _ rfl w5.heap.size 0 rfl l1 _ RV.out.1 Try.underlying30 rfl HL1.out.info ?_)
            | (refine wpList_store_mid rfl 30 _ _ rfl a 0 l1.toArray rfl rfl TAa.out HL1.out.infoA HL1.out.one ?_; change wpList _ _ _ _ _ (World.setCells _ _ _ l1)))
          go_roundg (n - (k + 1))
          case measure => omega
          case rel => exact ⟨k + 1, D1, by omega, rfl, by rw [HX.out.1]; rfl, by go_num, HC1.out, by rw [HL1S.out.1, HL1S.out.2.1]; exact HV.out.set HL1.out.len⟩

theorem walk (w : World) (a0 : Int) (w0 : (Lit.int .u64 a0).wf = true) (a1 : Int) (w1 : (Lit.int .u64 a1).wf = true) (a2 : Option Addr) (len2 cap2 : Nat) (z2 : List Int) (w2 : IsRow .u8 w a2 len2 cap2 z2) (a3 : Bool) :
    Calls Try.prog 3 #[.int .u64 a0, .int .u64 a1, .slice a2 len2 cap2, .bool a3] w fun e w' => e = .returned (.bool true) ∧ Below w.heap.size w w' := by
  obtain ⟨l, hll, hm, h8, hri⟩ := w2.rowN 256 (by decide) (fun y hy => by have := bounds_u8 hy; omega)
  subst hll
  by_cases h : 60 < l.length
  · exact walk_long w a0 a1 a2 cap2 _ a3 hm h
  · by_cases h0 : 0 < l.length
    · obtain ⟨u, rfl, hu⟩ := u64_nat w0
      obtain ⟨v, rfl, _⟩ := u64_nat w1
      obtain ⟨b, off, rfl, _⟩ := hri 0 h0
      exact walk_some w u v hu b off cap2 a3 l (by omega) h0 h8 (fun j hj => by
        obtain ⟨b', off', e, hc⟩ := hri j hj
        cases e
        exact hc)
    · have e : l.length = 0 := by omega
      rw [e]
      exact walk_nil w a0 a1 a2 cap2 a3

theorem own : ownKnob Try.prog.godebug = none := by kernel_rfl
theorem laidOut : laidOutB Try.prog = true := by kernel_rfl
set_option linter.unusedVariables false in
set_option maxRecDepth 100000 in
theorem lifted (os : Os) (started : os.Started) (H : Type) (enc : TypeId × Value → H) :
    ReturnsInHanded {} Try.checked os 3 .any (Rows.slotsNextSpec.pre6 enc Try.prog Try.f3 Rows.slotsNextRow.domain false) (Rows.slotsNextSpec.post enc Try.prog Try.f3 false true false false) := by
  refine returnsInHanded_of_change (C := Try.checked) own started (by kernel_rfl) Try.func3
    (ChangeSpec.witness6 (enc := enc) (C := Try.checked) false ⟨#[], #[.int .u64 0, .int .u64 0, .slice none 0 0, .bool false], []⟩ 8 (by kernel_rfl) (by kernel_rfl) (by kernel_rfl) (by kernel_rfl)) ?_
  intro W base args ds gs before hval0 hW hcnd _
  have hval : ∀ (j : Nat) t v, Try.f3.params[j]? = some t → args[j]? = some v → Value.okWide Try.prog W .any base t v := hval0
  have hW' := hW
  obtain ⟨p, q, hA0, hV, rfl, hfz, hnd⟩ := hW
  have hA : DataW.TrodAll enc Try.prog W 0 (fun _ => true) true Try.f3.params.toList args.toList ds p := hA0
  rw [Try.params3] at hA hval
  obtain ⟨v0, vs0, d0, ds0, p0, q0, hargs, rfl, rfl, h0, r0⟩ := trodAll_cons hA
  obtain ⟨v1, vs1, d1, ds1, p1, q1, rfl, rfl, rfl, h1, r1⟩ := trodAll_cons r0
  obtain ⟨v2, vs2, d2, ds2, p2, q2, rfl, rfl, rfl, h2, r2⟩ := trodAll_cons r1
  obtain ⟨v3, vs3, d3, ds3, p3, q3, rfl, rfl, rfl, h3, r3⟩ := trodAll_cons r2
  obtain ⟨rfl, rfl, rfl⟩ := trodAll_nil r3
  obtain rfl : args = #[v0, v1, v2, v3] := by cases args; simp_all
  obtain ⟨rfl, rfl⟩ := trodVars_none hV
  obtain ⟨a0, rfl, rfl, rfl, w0⟩ := open_int Try.underlying22 (hval 0 22 v0 rfl rfl) h0
  obtain ⟨a1, rfl, rfl, rfl, w1⟩ := open_int Try.underlying22 (hval 1 22 v1 rfl rfl) h1
  obtain ⟨a2, len2, cap2, rfl⟩ := okWide_slice Try.underlying23 (hval 2 23 v2 rfl rfl)
  have k2 := h2
  have lt2 : ∀ x ∈ p2, x.block < W.heap.size := by obtain ⟨m, hm⟩ := k2; exact DataW.trod_lt m _ _ _ hm
  obtain ⟨z2, w2⟩ : ∃ zs, IsRow .u8 W a2 len2 cap2 zs := by
    obtain ⟨fuel, hf⟩ := h2
    rcases open_ints Try.underlying23 Try.underlying5 (by kernel_rfl) hf with ⟨hcs, _⟩ | ⟨x, l, c, zs, hcs, _, hl, hm, hz, _, hcell, hwz⟩
    · simp [Value.cells] at hcs
      obtain ⟨rfl, rfl, rfl⟩ := hcs
      exact ⟨[], .inl ⟨rfl, rfl, rfl, rfl⟩⟩
    · simp [Value.cells] at hcs
      obtain ⟨rfl, rfl, rfl⟩ := hcs
      exact ⟨zs, .inr ⟨_, rfl, hl, hm, by simpa using hz, hcell, hwz⟩⟩
  obtain ⟨a3, rfl, rfl, rfl⟩ := open_bool Try.underlying4 (hval 3 4 v3 rfl rfl) h3
  clear hA0 hval0
  simp only [List.append_nil] at hW'
  refine (walk W a0 w0 a1 w1 a2 len2 cap2 z2 w2 a3).mono fun e W' ⟨he, hg⟩ => ?_
  subst he
  exact ⟨_, rfl, _, _, _, [], _, [], hW', trodAll_mk1 (shut_bool Try.underlying4 _), (trodAll_cons_mk (shut_int Try.underlying22 w0) (trodAll_cons_mk (shut_int Try.underlying22 w1) (trodAll_cons_mk (Below.trod laidOut (by kernel_rfl) (of_decide_eq_true (by kernel_rfl)) k2 hg lt2) (trodAll_cons_mk (shut_bool Try.underlying4 a3) trodAll_mk0)))), rfl, hg.frame _, fun h => by cases h⟩
/-- For every input the law returns true, and each argument reads as it did. -/
theorem proved : Rows.SlotsNextSaid :=
  OpenClaim.holds_of_wide 3 Try.f3 rfl rfl rfl rfl rfl rfl rfl ⟨rfl, rfl, rfl, rfl, rfl⟩ rfl rfl rfl rfl rfl (by kernel_rfl) Try.func3 (by kernel_rfl)
    (of_decide_eq_true (by kernel_rfl)) (by unfold Func.isWrapper; first | (rw [if_pos (by decide +kernel)]; kernel_rfl) | (rw [if_neg (by decide +kernel)]; exact ⟨rfl, rfl⟩))
    (fun os started H enc _ => lifted os started H enc)
end Go.Proofs.Ytgkhnfchohcjeaa.slotsNext
