/- Several texts in one. A superblock's ten cells as one list: loaded and stored whole, wherever in a block they lie. What is in a drive's two slots, which superblock is the newer, and what Save and Next make of a drive: plain. What slots asks of super: Encode's and Decode's contracts. The walk of slots' in: the superblock in a slot. -/
import Derived.Test.YtgkhnfchohcjeaaMDrvB
import Derived.Test.YtgkhnfchohcjeaaSupMath
namespace Go.Proofs.Ytgkhnfchohcjeaa
open Go.RowKit

def supL (s : Su) : List Value := [.int .u64 (s.uu : Int), .int .u64 (s.ev : Int), .int .i64 s.role, .int .i64 s.c, .int .i64 s.k, .int .i64 s.r, .bool s.cl, .int .i64 s.b, .int .i64 s.nw, .int .i64 s.g]
theorem supV_list (s : Su) : supV s = .agg (supL s).toArray := rfl
theorem supL_len (s : Su) : (supL s).length = 10 := rfl
theorem supL_size (s : Su) : (supL s).toArray.size = 10 := rfl
theorem supL_one (s : Su) : (supL s).toArray.all (·.oneCell') = true := all_oneCell_toArray (by
  intro v hv
  simp only [supL, List.mem_cons, List.not_mem_nil, or_false] at hv
  rcases hv with rfl | rfl | rfl | rfl | rfl | rfl | rfl | rfl | rfl | rfl <;> rfl)
theorem supL_ev (s : Su) : (supL s)[1]? = some (.int .u64 (s.ev : Int)) := rfl
theorem info_sup : (Try.prog.info? 30).map (·.size) = some 10 := by kernel_rfl
/-- what the walk asks of such a list, whatever it is -/
structure SupL (l : List Value) (s : Su) : Prop where
  len : l.length = 10
  size : l.toArray.size = 10
  one : l.toArray.all (·.oneCell') = true
  ev : l[1]? = some (.int .u64 (s.ev : Int))
  info : (Try.prog.info? 30).map (·.size) = some l.length
  infoA : (Try.prog.info? 30).map (·.size) = some l.toArray.size
  eq : l = supL s
theorem supL_of (s : Su) : SupL (supL s) s := ⟨rfl, rfl, supL_one s, rfl, info_sup, info_sup, rfl⟩
theorem sup_letter (s : Su) : ∃ l, supL s = l ∧ SupL l s := ⟨_, rfl, supL_of s⟩

section
variable {w w' : World} {b o n : Nat} {l : List Value}
theorem range_below (h : w.rangeAt b o l) (hlt : b < w.heap.size) (hb : Below w.heap.size w w') : w'.rangeAt b o l := fun j v hv =>
  (World.cell?_of_block (a := ⟨b, o + j, none⟩) (hb.block b hlt)).trans (h j v hv)
theorem there_below (h : w.there b o n) (hlt : b < w.heap.size) (hb : Below w.heap.size w w') : w'.there b o n := fun j hj =>
  ⟨by rw [World.cell?_of_block (a := ⟨b, o + j, none⟩) (hb.block b hlt)]; exact (h j hj).1, by rw [World.frozen?_of_block (a := ⟨b, o + j, none⟩) (hb.block b hlt)]; exact (h j hj).2⟩
theorem range_new (w : World) (t : TypeId) (l : List Value) : (w.alloc (.cells l.toArray t)).rangeAt w.heap.size 0 l := fun j v hv => by
  rw [cell_of_row (w.alloc (.cells l.toArray t)) w.heap.size (0 + j) _ _ _ (heap_alloc_last w (.cells l.toArray t)), Nat.zero_add]
  simpa using hv
theorem below_setCells (hb : b ≥ n) (vs : List Value) : Below n w (w.setCells b o vs) := by
  obtain ⟨h1, h2, h3, h4, h5⟩ := setCells_os b vs o w
  exact ⟨h1, h2, h3, by rw [h4]; exact Nat.le_refl _, fun k hk => h5 k (by omega)⟩
theorem size_setCells (w : World) (b o : Nat) (vs : List Value) : (w.setCells b o vs).heap.size = w.heap.size := (setCells_os b vs o w).2.2.2.1
theorem there_mono (h : w.there b o n) {o' n' : Nat} (h1 : o ≤ o') (h2 : o' + n' ≤ o + n) : w.there b o' n' := fun j hj => by
  have := h (o' - o + j) (by omega)
  rwa [show o + (o' - o + j) = o' + j by omega] at this
theorem range_cell (h : w.rangeAt b o l) {j : Nat} {v : Value} (hv : l[j]? = some v) : w.cell? ⟨b, o + j, none⟩ = some v := h j v hv
end
theorem results_cell_slot {P : Program} {fn : Func} {p q : Tmp} {ty : TypeId} (h : fn.results = #[.cell p ty, .tmp q]) (tmps : Array Value) (w : World) (g o : Nat) (cs : List Value) (d : TypeDesc)
    (hp : tmps.getD p undef = .pointer (some ⟨g, o, none⟩)) (hg : w.rangeAt g o cs) (hu : P.underlying ty = some d) (hd : d.isRow = true) (hi : (P.info? ty).map (·.size) = some cs.length) :
    (results fn tmps).run P w = .ok (.tuple #[.agg cs.toArray, tmps.getD q undef]) w := by
  have hp' : tmps[p]?.getD undef = .pointer (some ⟨g, o, none⟩) := by simpa using hp
  simp [results, h, hp', asAddr, run_loadVar_mid w g o ty cs d hg hu hd hi]
theorem results_cell_cell {P : Program} {fn : Func} {p q : Tmp} {ty ty' : TypeId} (h : fn.results = #[.cell p ty, .cell q ty']) (tmps : Array Value) (w : World) (g o g' o' : Nat) (cs cs' : List Value) (d d' : TypeDesc)
    (hp : tmps.getD p undef = .pointer (some ⟨g, o, none⟩)) (hg : w.rangeAt g o cs) (hu : P.underlying ty = some d) (hd : d.isRow = true) (hi : (P.info? ty).map (·.size) = some cs.length)
    (hp' : tmps.getD q undef = .pointer (some ⟨g', o', none⟩)) (hg' : w.rangeAt g' o' cs') (hu' : P.underlying ty' = some d') (hd' : d'.isRow = true) (hi' : (P.info? ty').map (·.size) = some cs'.length) :
    (results fn tmps).run P w = .ok (.tuple #[.agg cs.toArray, .agg cs'.toArray]) w := by
  have h1 : tmps[p]?.getD undef = .pointer (some ⟨g, o, none⟩) := by simpa using hp
  have h2 : tmps[q]?.getD undef = .pointer (some ⟨g', o', none⟩) := by simpa using hp'
  simp [results, h, h1, h2, asAddr, run_loadVar_mid w g o ty cs d hg hu hd hi, run_loadVar_mid w g' o' ty' cs' d' hg' hu' hd' hi']
end Go.Proofs.Ytgkhnfchohcjeaa

namespace Go.Proofs.Ytgkhnfchohcjeaa
open Go.RowKit

namespace Dr
/-- the superblock in a slot, and whether there is one -/
def slS (D : Dr) (i : Int) : Su := if D.readE i = 0 then Sup.decS (txt (D.readS i)) else Sup.none
def slB (D : Dr) (i : Int) : Bool := D.readE i == 0 && Sup.decE (txt (D.readS i)) == 0
/-- which slot has the newer of two -/
def newer (b0 b1 : Bool) (e0 e1 : Nat) : Int := bif b1 && (!b0 || decide (e0 < e1)) then 1 else bif b0 then 0 else -1
def newest (D : Dr) : Int := newer (D.slB 0) (D.slB 1) (D.slS 0).ev (D.slS 1).ev
def loadE (D : Dr) : Nat := if D.dead then 40 else if D.newest < 0 then 90 else 0
def loadS (D : Dr) : Su := if D.dead then Sup.none else if D.newest < 0 then Sup.none else D.slS D.newest
def slot (s : Su) : Nat := s.ev % 2
def saveE (D : Dr) (s : Su) : Nat := if Sup.mayB s then (if D.takeE (slot s) 64 = 0 then (D.write (slot s) (Sup.secT s).data.toList).runsE else D.takeE (slot s) 64) else 1
def saveD (D : Dr) (s : Su) : Dr := if Sup.mayB s then (if D.takeE (slot s) 64 = 0 then (if (D.write (slot s) (Sup.secT s).data.toList).runsE = 0 then (D.write (slot s) (Sup.secT s).data.toList).flush else D.write (slot s) (Sup.secT s).data.toList) else D) else D
/-- as it is saved next -/
def bump (D : Dr) (s : Su) : Su := { s with ev := ((if D.loadE = 0 then D.loadS.ev else s.ev) + 1) % 18446744073709551616 }
def nextS (D : Dr) (s : Su) : Su := if D.saveE (D.bump s) = 0 then D.bump s else Sup.none

theorem newer_none (e0 e1 : Nat) : newer false false e0 e1 = -1 := rfl
theorem newer_first (e0 e1 : Nat) : newer true false e0 e1 = 0 := rfl
theorem newer_second (e0 e1 : Nat) : newer false true e0 e1 = 1 := rfl
theorem newer_cases (b0 b1 : Bool) (e0 e1 : Nat) : newer b0 b1 e0 e1 = -1 ∨ newer b0 b1 e0 e1 = 0 ∨ newer b0 b1 e0 e1 = 1 := by
  unfold newer
  cases (b1 && (!b0 || decide (e0 < e1))) <;> cases b0 <;> simp
theorem slS_none {D : Dr} {i : Int} (h : D.slB i = false) : D.slS i = Sup.none := by
  unfold slB at h
  unfold slS
  split
  · rename_i hr
    rw [hr] at h
    unfold Sup.decS
    rw [if_neg]
    intro e
    rw [e] at h
    exact absurd h (by decide)
  · rfl
theorem slS_in (D : Dr) (i : Int) : (D.slS i).uu < 18446744073709551616 ∧ (D.slS i).ev < 18446744073709551616 ∧ 0 ≤ (D.slS i).c ∧ (D.slS i).c < 256 ∧ 0 ≤ (D.slS i).nw ∧ (D.slS i).nw < 256 := by
  have hn : Sup.none.uu < 18446744073709551616 ∧ Sup.none.ev < 18446744073709551616 ∧ 0 ≤ Sup.none.c ∧ Sup.none.c < 256 ∧ 0 ≤ Sup.none.nw ∧ Sup.none.nw < 256 := by decide
  unfold slS
  split
  · unfold Sup.decS
    split
    · rename_i he
      have h64 : (txt (D.readS i)).size = 64 := by
        unfold Sup.decE at he
        by_cases hs : (txt (D.readS i)).size = 64
        · exact hs
        · rw [if_pos hs] at he; exact absurd he (by decide)
      obtain ⟨_, hu, hv, _, h3, _, _, _, h7, _⟩ := Sup.told_fit _ h64
      exact ⟨hu, hv, h3.1, h3.2, h7.1, h7.2⟩
    · exact hn
  · exact hn
theorem loadS_lt (D : Dr) : D.loadS.ev < 18446744073709551616 ∧ D.loadS.uu < 18446744073709551616 := by
  unfold loadS
  split
  · decide
  · split
    · decide
    · exact ⟨(D.slS_in _).2.1, (D.slS_in _).1⟩
theorem runsE_write (D : Dr) (i : Nat) (s : List UInt8) (h : D.goes = false) : (D.write i s).runsE = D.runsE := by
  unfold runsE write spend put
  simp [h]
end Dr
end Go.Proofs.Ytgkhnfchohcjeaa

namespace Go.Proofs.Ytgkhnfchohcjeaa
open Go.RowKit

structure SupSays : Prop where
  dec : ∀ (b : ByteArray) (w : World), Calls Try.prog 34 #[.string b] w fun e w' => e = .returned (.tuple #[.agg (supL (Sup.decS b)).toArray, .int .i64 (Sup.decE b)]) ∧ Below w.heap.size w w'
  enc : ∀ (s : Su) (_ : s.uu < 18446744073709551616) (_ : s.ev < 18446744073709551616) (_ : s.c ≤ 9223372036854775807) (_ : s.nw ≤ 9223372036854775807) (w : World), Calls Try.prog 14 #[.agg (supL s).toArray] w fun e w' => e = .returned (.tuple #[.string (Sup.encT s), .int .i64 (Sup.encE s)]) ∧ Below w.heap.size w w'
end Go.Proofs.Ytgkhnfchohcjeaa

namespace Go.Proofs.Ytgkhnfchohcjeaa
open Go.RowKit

set_option maxRecDepth 100000 in
set_option maxHeartbeats 2000000 in
theorem in_none {w : World} {p : Nat} {D : Dr} {F : Nat → Prop} (h : DriveAt w p D F) (i : Int) (hr : D.readE i ≠ 0) :
    Calls Try.prog 21 #[.pointer (some ⟨p, 0, none⟩), .int .i64 i] w fun e w' => e = .returned (.tuple #[.agg (supL Sup.none).toArray, .bool false]) ∧ Below w.heap.size w w' := by
  have hR := read_any (h.below ((Below.refl w.heap.size w).alloc (Nat.le_refl _) (.cells (supL Sup.none).toArray 30))) i
  obtain ⟨r, er⟩ : ∃ r, r = D.readE i := ⟨_, rfl⟩
  obtain ⟨t, et⟩ : ∃ t, t = txt (D.readS i) := ⟨_, rfl⟩
  rw [← er] at hr hR
  rw [← et] at hR
  have hne : ((r : Int) != 0) = true := by simp only [bne_iff_ne, ne_eq]; omega
  have HT : Hid _ := there_new w (supL Sup.none).toArray 30 10 (by decide)
  have HS : Hid _ := World.size_alloc w (.cells (supL Sup.none).toArray 30)
  clear er et hr h
  go_enter Try.func21, Try.ntmps21
  go_wp2_with fail
  refine hR.mono ?_
  rintro e w1 ⟨rfl, hb1⟩
  have T : Hid _ := there_below HT.out (by rw [HS.out]; exact Nat.lt_succ_self _) hb1
  have HB : Hid (Below w.heap.size w w1) := ((Below.refl w.heap.size w).alloc (Nat.le_refl _) _).trans (hb1.mono (by rw [HS.out]; omega))
  clear hR hb1 HT HS
  go_wp2_with (first
    | (refine wpList_store_mid rfl 30 _ _ rfl w.heap.size 0 (supL Sup.none).toArray rfl rfl T.out info_sup (supL_one _) ?_))
  refine bodyPost_ret (results_cell_slot rfl _ _ w.heap.size 0 (supL Sup.none) _ rfl (World.rangeAt_setCells_same _ _ _ _ T.out) Try.underlying30 rfl info_sup) rfl ⟨rfl, ?_⟩
  exact HB.out.trans (below_setCells (Nat.le_refl _) _)
set_option maxRecDepth 100000 in
set_option maxHeartbeats 2000000 in
theorem in_some (X : SupSays) {w : World} {p : Nat} {D : Dr} {F : Nat → Prop} (h : DriveAt w p D F) (i : Int) (hr : D.readE i = 0) :
    Calls Try.prog 21 #[.pointer (some ⟨p, 0, none⟩), .int .i64 i] w fun e w' => e = .returned (.tuple #[.agg (supL (Sup.decS (txt (D.readS i)))).toArray, .bool (Sup.decE (txt (D.readS i)) == 0)]) ∧ Below w.heap.size w w' := by
  have hR := read_any (h.below ((Below.refl w.heap.size w).alloc (Nat.le_refl _) (.cells (supL Sup.none).toArray 30))) i
  rw [hr] at hR
  obtain ⟨t, et⟩ : ∃ t, t = txt (D.readS i) := ⟨_, rfl⟩
  rw [← et] at hR ⊢
  have hD := fun W => X.dec t W
  obtain ⟨l, el, L⟩ := sup_letter (Sup.decS t)
  obtain ⟨c, ec⟩ : ∃ c, c = Sup.decE t := ⟨_, rfl⟩
  rw [el, ← ec] at hD ⊢
  have HL : Hid _ := L
  have HT : Hid _ := there_new w (supL Sup.none).toArray 30 10 (by decide)
  have HS : Hid _ := World.size_alloc w (.cells (supL Sup.none).toArray 30)
  clear ec et el hr h L X
  go_enter Try.func21, Try.ntmps21
  go_wp2_with fail
  refine hR.mono ?_
  rintro e w1 ⟨rfl, hb1⟩
  have T : Hid _ := there_below HT.out (by rw [HS.out]; exact Nat.lt_succ_self _) hb1
  have HB : Hid (Below w.heap.size w w1) := ((Below.refl w.heap.size w).alloc (Nat.le_refl _) _).trans (hb1.mono (by rw [HS.out]; omega))
  have HL1 : Hid (w.heap.size < w1.heap.size) := Nat.lt_of_lt_of_le (by rw [HS.out]; exact Nat.lt_succ_self _) hb1.size
  clear hR hb1 HT HS
  go_wp2_with fail
  refine (hD _).mono ?_
  rintro e w2 ⟨rfl, hb2⟩
  have T2 : Hid _ := there_below T.out HL1.out hb2
  have HB2 : Hid (Below w.heap.size w w2) := HB.out.trans (hb2.mono (Nat.le_of_lt HL1.out))
  have HL2 : Hid (w.heap.size < w2.heap.size) := Nat.lt_of_lt_of_le HL1.out hb2.size
  clear hD hb2 T HB HL1
  have TN : Hid (∀ C : Array Value, C.size = 10 → (w2.alloc (.cells C 30)).there w2.heap.size 0 l.toArray.size) := fun C hC => by rw [HL.out.size]; exact there_new w2 C _ 10 (by omega)
  have TM : Hid (∀ o : Obj, ((w2.alloc o).setCells w2.heap.size 0 l.toArray.toList).there w.heap.size 0 l.toArray.size) := fun o => by rw [HL.out.size]; exact World.there_setCells (World.there_alloc T2.out _) _ _ _
  go_wp2_with (first
    | (refine wpList_store_mid rfl 30 _ _ rfl w2.heap.size 0 l.toArray rfl rfl (TN.out _ rfl) HL.out.infoA HL.out.one ?_)
    | (refine wpList_load_mid rfl 30 _ rfl w2.heap.size 0 rfl l _ (World.rangeAt_setCells_same _ _ _ _ (TN.out _ rfl)) Try.underlying30 rfl HL.out.info ?_)
    | (refine wpList_store_mid rfl 30 _ _ rfl w.heap.size 0 l.toArray rfl rfl (TM.out _) HL.out.infoA HL.out.one ?_))
  refine bodyPost_ret (results_cell_slot rfl _ _ w.heap.size 0 l _ rfl (World.rangeAt_setCells_same _ _ _ _ (TM.out _)) Try.underlying30 rfl HL.out.info) rfl ⟨rfl, ?_⟩
  refine (HB2.out.trans ?_).trans (below_setCells (Nat.le_refl _) _)
  exact ((Below.refl _ w2).alloc (Nat.le_of_lt HL2.out) _).trans (below_setCells (Nat.le_of_lt HL2.out) _)
theorem in_any (X : SupSays) {w : World} {p : Nat} {D : Dr} {F : Nat → Prop} (h : DriveAt w p D F) (i : Int) :
    Calls Try.prog 21 #[.pointer (some ⟨p, 0, none⟩), .int .i64 i] w fun e w' => e = .returned (.tuple #[.agg (supL (D.slS i)).toArray, .bool (D.slB i)]) ∧ Below w.heap.size w w' := by
  unfold Dr.slS Dr.slB
  by_cases hr : D.readE i = 0
  · rw [if_pos hr, hr]
    exact in_some X h i hr
  · rw [if_neg hr, show (D.readE i == 0) = false from by simpa using hr]
    exact in_none h i hr
end Go.Proofs.Ytgkhnfchohcjeaa
