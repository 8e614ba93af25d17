/- The walk of New: a drive of so many sectors, all bytes 0, in blocks of its own. -/
import Derived.Test.YtgkhnfchohcjeaaDrvRead
namespace Go.Proofs.Ytgkhnfchohcjeaa
open Go.RowKit Go.Maps

def Zs (n : Nat) : Array Value := (List.replicate (n * 64) (Value.int .u8 0)).toArray
def Fs (n : Nat) : Array Value := (List.replicate n (Value.bool false)).toArray
theorem info_sector3 : (Try.prog.info? 71).map (fun i => (i.zero, i.size, i.bytes)) = some (some (.agg (Array.replicate 64 (.int .u8 0))), 64, 64) := by kernel_rfl
theorem info_bool3 : (Try.prog.info? 4).map (fun i => (i.zero, i.size, i.bytes)) = some (some (.bool false), 1, 1) := by kernel_rfl
theorem made_const (c : Value) (k n : Nat) (hk : 0 < k) : madeCells (Array.replicate k c) n = (List.replicate n c).toArray := by
  apply Array.ext'
  unfold madeCells
  rw [List.toList_toArray, Array.toList_map, Array.toList_range]
  apply List.ext_getElem
  · simp
  · intro i h1 h2
    simp only [List.getElem_map, List.getElem_range, List.getElem_replicate, Array.size_replicate]
    have : i % k < k := Nat.mod_lt _ hk
    simp [this]
theorem make_sectors (n : Nat) (hn : n ≤ 4096) (w : World) : (Instr.makeSlice 51 (.int .i64 (n : Int)) (.int .i64 (n : Int))).run Try.prog w = .ok (.slice (some ⟨w.heap.size, 0, none⟩) n n) (w.alloc (.cells (Zs n) 71)) := by
  obtain ⟨i, hi, hz, hs, hb⟩ := info_parts info_sector3
  have h := run_make (P := Try.prog) w 51 71 i _ Try.underlying51 hi hz .i64 .i64 (n : Int) (n : Int) (by omega) (Int.le_refl _) (by rw [hb]; omega) (by omega)
  rw [h, hs]
  show Result.ok _ (w.alloc (.cells (madeCells (Array.replicate 64 (Value.int .u8 0)) (((n : Int).toNat) * 64)) 71)) = _
  rw [made_const _ _ _ (by decide)]
  rfl
theorem make_marks (n : Nat) (hn : n ≤ 4096) (w : World) : (Instr.makeSlice 52 (.int .i64 (n : Int)) (.int .i64 (n : Int))).run Try.prog w = .ok (.slice (some ⟨w.heap.size, 0, none⟩) n n) (w.alloc (.cells (Fs n) 4)) := by
  obtain ⟨i, hi, hz, hs, hb⟩ := info_parts info_bool3
  have h := run_make (P := Try.prog) w 52 4 i _ Try.underlying52 hi hz .i64 .i64 (n : Int) (n : Int) (by omega) (Int.le_refl _) (by rw [hb]; omega) (by omega)
  rw [h, hs]
  show Result.ok _ (w.alloc (.cells (madeCells (Array.replicate 1 (Value.bool false)) (((n : Int).toNat) * 1)) 4)) = _
  rw [made_const _ _ _ (by decide), Nat.mul_one]
  rfl

theorem fresh_at {w : World} {n p sb pb mb : Nat} (h1 : 1 ≤ n) (h2 : n ≤ 4096)
    (hp : w.heap[p]? = some (.cells #[.slice (some ⟨sb, 0, none⟩) n n, .slice (some ⟨pb, 0, none⟩) n n, .map (some mb), .bool false, .bool false, .int .i64 0] 55 (0, 0)))
    (hs : w.heap[sb]? = some (.cells (Zs n) 71 (0, 0))) (hb : w.heap[pb]? = some (.cells (Fs n) 4 (0, 0))) (hm : w.heap[mb]? = some (.map #[] 0)) : DrvIn w p sb pb mb (fun _ => .slice none 0 0) (Dr.fresh n) := by
  have hl : (Dr.fresh n).safe.length = n := by simp [Dr.fresh]
  refine ⟨Dr.Ok.fresh h1 h2, by rw [hl]; exact hp, ⟨_, hs, ?_⟩, ⟨_, hb, ?_⟩, ⟨.map [], ?_⟩, fun i => ?_, fun _ _ => rfl, fun i e => by simp [Value.ownBlock] at e, fun i j _ k hk => by simp [Value.ownBlock] at hk⟩
  · show (Zs n).toList = flat (List.replicate n (List.replicate 64 0))
    rw [flat_zeros]; rfl
  · show (Fs n).toList = (List.replicate n false).map Value.bool
    rw [List.map_replicate]; rfl
  · refine ⟨⟨#[], 0, hm, ⟨by simp, MapKept.stamped_empty 0, by simp⟩, Nat.le_refl _, rfl⟩, fun i hi d hd => ?_, fun i hi => rfl, fun kl hk => by cases hk⟩
    cases hd; rfl
  · exact World.ownsRow_nil w 0 _ 64

set_option maxHeartbeats 400000 in
theorem new_no (n : Int) (h : n < 1 ∨ 4096 < n) (w : World) : Calls Try.prog 7 #[.int .i64 n] w fun e w' => e = .returned (.pointer none) ∧ w' = w := by
  rcases h with h | h
  · go_enter Try.func7, Try.ntmps7
    go_wp2
    go_ret
    exact ⟨rfl, rfl⟩
  · have h1 : ¬ n < 1 := by omega
    go_enter Try.func7, Try.ntmps7
    go_wp2
    go_ret
    exact ⟨rfl, rfl⟩

theorem four (w : World) (A B C E : Obj) : ((((w.alloc A).alloc B).alloc C).alloc E).drew.heap[w.heap.size]? = some A ∧ ((((w.alloc A).alloc B).alloc C).alloc E).drew.heap[w.heap.size + 1]? = some B ∧ ((((w.alloc A).alloc B).alloc C).alloc E).drew.heap[w.heap.size + 1 + 1]? = some C ∧ ((((w.alloc A).alloc B).alloc C).alloc E).drew.heap[w.heap.size + 1 + 1 + 1]? = some E ∧ Below w.heap.size w ((((w.alloc A).alloc B).alloc C).alloc E).drew := by
  have s1 : (w.alloc A).heap.size = w.heap.size + 1 := by simp
  have s2 : ((w.alloc A).alloc B).heap.size = w.heap.size + 1 + 1 := by simp
  have s3 : (((w.alloc A).alloc B).alloc C).heap.size = w.heap.size + 1 + 1 + 1 := by simp
  refine ⟨?_, ?_, ?_, ?_, ((((Below.refl _ w).alloc (Nat.le_refl _) _).alloc (by simp) _).alloc (by simp; omega) _).alloc (by simp; omega) _ |>.drew⟩
  · show ((((w.alloc A).alloc B).alloc C).alloc E).heap[w.heap.size]? = _
    rw [Below.heap_alloc _ _ _ (by omega), Below.heap_alloc _ _ _ (by omega), Below.heap_alloc _ _ _ (by omega)]
    exact heap_alloc_last w A
  · show ((((w.alloc A).alloc B).alloc C).alloc E).heap[w.heap.size + 1]? = _
    rw [Below.heap_alloc _ _ _ (by omega), Below.heap_alloc _ _ _ (by omega), ← s1]
    exact heap_alloc_last _ B
  · show ((((w.alloc A).alloc B).alloc C).alloc E).heap[w.heap.size + 1 + 1]? = _
    rw [Below.heap_alloc _ _ _ (by omega), ← s2]
    exact heap_alloc_last _ C
  · show ((((w.alloc A).alloc B).alloc C).alloc E).heap[w.heap.size + 1 + 1 + 1]? = _
    rw [← s3]
    exact heap_alloc_last _ E
theorem foot_new {w : World} {p sb pb mb : Nat} (h1 : w.heap.size ≤ p) (h2 : w.heap.size ≤ sb) (h3 : w.heap.size ≤ pb) (h4 : w.heap.size ≤ mb) : ∀ k, Foot p sb pb mb (fun _ => .slice none 0 0) k → w.heap.size ≤ k := by
  intro k hk
  rcases hk with rfl | rfl | rfl | rfl | ⟨i, hi⟩
  · exact h1
  · exact h2
  · exact h3
  · exact h4
  · simp [Value.ownBlock] at hi

set_option maxHeartbeats 1000000 in
theorem new_yes (n : Nat) (h1 : 1 ≤ n) (h2 : n ≤ 4096) (w : World) : Calls Try.prog 7 #[.int .i64 (n : Nat)] w fun e w' => ∃ p, e = .returned (.pointer (some ⟨p, 0, none⟩)) ∧ DriveAt w' p (Dr.fresh n) (fun k => w.heap.size ≤ k) ∧ Below w.heap.size w w' := by
  have m1 := make_sectors n h2
  have m2 := make_marks n h2
  have m3 := fun W => run_makeMap (P := Try.prog) 53 W
  have t1 : ¬ (n : Int) < 1 := by omega
  have t2 : ¬ (4096 : Int) < n := by omega
  have h3 : (n : Int) ≤ 4096 := by omega
  go_enter Try.func7, Try.ntmps7
  go_wp2
  go_region
  all_goals
    go_wp2
    go_ret
    refine ⟨_, rfl, ⟨_, _, _, _, fresh_at h1 h2 (four w _ _ _ _).2.2.2.1 ?_ ?_ ?_, foot_new (by omega) (by omega) (by omega) (by omega)⟩, (four w _ _ _ _).2.2.2.2⟩
    all_goals first | exact (four w _ _ _ _).1 | exact (four w _ _ _ _).2.1 | exact (four w _ _ _ _).2.2.1
end Go.Proofs.Ytgkhnfchohcjeaa
