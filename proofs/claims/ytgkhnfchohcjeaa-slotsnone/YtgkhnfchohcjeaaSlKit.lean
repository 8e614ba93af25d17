/- A superblock's ten cells as one list: loaded and stored whole, wherever in a block they lie. -/
import Derived.Test.YtgkhnfchohcjeaaDrvFill
import Derived.Test.YtgkhnfchohcjeaaSupMath
namespace Go.Proofs.Ytgkhnfchohcjeaa
open Go.RowKit

def supL (s : Su) : List Value := [.int .u64 (s.uu : Int), .int .u64 (s.ev : Int), .int .i64 s.role, .int .i64 s.c, .int .i64 s.k, .int .i64 s.r, .bool s.cl, .int .i64 s.b, .int .i64 s.nw, .int .i64 s.g]
theorem supV_list (s : Su) : supV s = .agg (supL s).toArray := rfl
theorem supL_len (s : Su) : (supL s).length = 10 := rfl
theorem supL_size (s : Su) : (supL s).toArray.size = 10 := rfl
theorem supL_one (s : Su) : (supL s).toArray.all (·.oneCell') = true := all_oneCell_toArray (by
  intro v hv
  simp only [supL, List.mem_cons, List.not_mem_nil, or_false] at hv
  rcases hv with rfl | rfl | rfl | rfl | rfl | rfl | rfl | rfl | rfl | rfl <;> rfl)
theorem supL_ev (s : Su) : (supL s)[1]? = some (.int .u64 (s.ev : Int)) := rfl
theorem info_sup : (Try.prog.info? 30).map (·.size) = some 10 := by kernel_rfl
/-- what the walk asks of such a list, whatever it is -/
structure SupL (l : List Value) (s : Su) : Prop where
  len : l.length = 10
  size : l.toArray.size = 10
  one : l.toArray.all (·.oneCell') = true
  ev : l[1]? = some (.int .u64 (s.ev : Int))
  info : (Try.prog.info? 30).map (·.size) = some l.length
  infoA : (Try.prog.info? 30).map (·.size) = some l.toArray.size
  eq : l = supL s
theorem supL_of (s : Su) : SupL (supL s) s := ⟨rfl, rfl, supL_one s, rfl, info_sup, info_sup, rfl⟩
theorem sup_letter (s : Su) : ∃ l, supL s = l ∧ SupL l s := ⟨_, rfl, supL_of s⟩

section
variable {w w' : World} {b o n : Nat} {l : List Value}
theorem range_below (h : w.rangeAt b o l) (hlt : b < w.heap.size) (hb : Below w.heap.size w w') : w'.rangeAt b o l := fun j v hv =>
  (World.cell?_of_block (a := ⟨b, o + j, none⟩) (hb.block b hlt)).trans (h j v hv)
theorem there_below (h : w.there b o n) (hlt : b < w.heap.size) (hb : Below w.heap.size w w') : w'.there b o n := fun j hj =>
  ⟨by rw [World.cell?_of_block (a := ⟨b, o + j, none⟩) (hb.block b hlt)]; exact (h j hj).1, by rw [World.frozen?_of_block (a := ⟨b, o + j, none⟩) (hb.block b hlt)]; exact (h j hj).2⟩
theorem range_new (w : World) (t : TypeId) (l : List Value) : (w.alloc (.cells l.toArray t)).rangeAt w.heap.size 0 l := fun j v hv => by
  rw [cell_of_row (w.alloc (.cells l.toArray t)) w.heap.size (0 + j) _ _ _ (heap_alloc_last w (.cells l.toArray t)), Nat.zero_add]
  simpa using hv
theorem below_setCells (hb : b ≥ n) (vs : List Value) : Below n w (w.setCells b o vs) := by
  obtain ⟨h1, h2, h3, h4, h5⟩ := setCells_os b vs o w
  exact ⟨h1, h2, h3, by rw [h4]; exact Nat.le_refl _, fun k hk => h5 k (by omega)⟩
theorem size_setCells (w : World) (b o : Nat) (vs : List Value) : (w.setCells b o vs).heap.size = w.heap.size := (setCells_os b vs o w).2.2.2.1
theorem there_mono (h : w.there b o n) {o' n' : Nat} (h1 : o ≤ o') (h2 : o' + n' ≤ o + n) : w.there b o' n' := fun j hj => by
  have := h (o' - o + j) (by omega)
  rwa [show o + (o' - o + j) = o' + j by omega] at this
theorem range_cell (h : w.rangeAt b o l) {j : Nat} {v : Value} (hv : l[j]? = some v) : w.cell? ⟨b, o + j, none⟩ = some v := h j v hv
end
theorem results_cell_slot {P : Program} {fn : Func} {p q : Tmp} {ty : TypeId} (h : fn.results = #[.cell p ty, .tmp q]) (tmps : Array Value) (w : World) (g o : Nat) (cs : List Value) (d : TypeDesc)
    (hp : tmps.getD p undef = .pointer (some ⟨g, o, none⟩)) (hg : w.rangeAt g o cs) (hu : P.underlying ty = some d) (hd : d.isRow = true) (hi : (P.info? ty).map (·.size) = some cs.length) :
    (results fn tmps).run P w = .ok (.tuple #[.agg cs.toArray, tmps.getD q undef]) w := by
  have hp' : tmps[p]?.getD undef = .pointer (some ⟨g, o, none⟩) := by simpa using hp
  simp [results, h, hp', asAddr, run_loadVar_mid w g o ty cs d hg hu hd hi]
theorem results_cell_cell {P : Program} {fn : Func} {p q : Tmp} {ty ty' : TypeId} (h : fn.results = #[.cell p ty, .cell q ty']) (tmps : Array Value) (w : World) (g o g' o' : Nat) (cs cs' : List Value) (d d' : TypeDesc)
    (hp : tmps.getD p undef = .pointer (some ⟨g, o, none⟩)) (hg : w.rangeAt g o cs) (hu : P.underlying ty = some d) (hd : d.isRow = true) (hi : (P.info? ty).map (·.size) = some cs.length)
    (hp' : tmps.getD q undef = .pointer (some ⟨g', o', none⟩)) (hg' : w.rangeAt g' o' cs') (hu' : P.underlying ty' = some d') (hd' : d'.isRow = true) (hi' : (P.info? ty').map (·.size) = some cs'.length) :
    (results fn tmps).run P w = .ok (.tuple #[.agg cs.toArray, .agg cs'.toArray]) w := by
  have h1 : tmps[p]?.getD undef = .pointer (some ⟨g, o, none⟩) := by simpa using hp
  have h2 : tmps[q]?.getD undef = .pointer (some ⟨g', o', none⟩) := by simpa using hp'
  simp [results, h, h1, h2, asAddr, run_loadVar_mid w g o ty cs d hg hu hd hi, run_loadVar_mid w g' o' ty' cs' d' hg' hu' hd' hi']
end Go.Proofs.Ytgkhnfchohcjeaa
