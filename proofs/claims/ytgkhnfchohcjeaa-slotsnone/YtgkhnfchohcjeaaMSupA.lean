/- Several texts in one. The walks of super's May, and of what it calls. The walk of super's May: one walk for each way through it. -/
import Derived.Test.YtgkhnfchohcjeaaSupMath
import Derived.Test.YtgkhnfchohcjeaaMLayB
import Derived.Laws.StructEq
import Derived.Laws.Cover2
import Derived.BigQuiet
namespace Go.Proofs.Ytgkhnfchohcjeaa
open Go.RowKit

set_option maxRecDepth 100000 in
set_option maxHeartbeats 1000000 in
theorem upTo_any (x : Int) (w : World) :
    Calls Try.prog 38 #[.int .i64 x] w fun e w' => e = .returned (.func (.func 52) #[] #[.pointer (some ⟨w.heap.size, 0, none⟩)]) ∧ w' = w.alloc (.cells #[.int .i64 x] 3) := by
  go_enter Try.func38, Try.ntmps38
  go_wp2
  go_ret
  exact ⟨rfl, rfl⟩
/-- whether a number is 0 to a last one -/
def upB (n x : Int) : Bool := decide (0 ≤ n) && decide (n ≤ x)
set_option maxRecDepth 100000 in
set_option maxHeartbeats 1000000 in
theorem upTo1_any (n x : Int) (a : Addr) (w : World) (h : w.cell? a = some (.int .i64 x)) :
    Calls Try.prog 52 #[.int .i64 n, .pointer (some a)] w fun e w' => e = .returned (.bool (upB n x)) ∧ w' = w := by
  by_cases h1 : 0 ≤ n
  · by_cases h2 : n ≤ x
    · have E : Hid (upB n x = true) := by show _ = _; simp [upB, h1, h2]
      go_enter Try.func52, Try.ntmps52
      go_wp2
      go_ret
      exact ⟨ret_bool E.out.symm, rfl⟩
    · have E : Hid (upB n x = false) := by show _ = _; simp [upB, h2]
      go_enter Try.func52, Try.ntmps52
      go_wp2
      go_ret
      exact ⟨ret_bool E.out.symm, rfl⟩
  · have E : Hid (upB n x = false) := by show _ = _; simp [upB, h1]
    go_enter Try.func52, Try.ntmps52
    go_wp2
    go_ret
    exact ⟨ret_bool E.out.symm, rfl⟩

set_option maxRecDepth 100000 in
set_option maxHeartbeats 1000000 in
theorem still_any (s : Su) (w : World) :
    Calls Try.prog 54 #[supV s] w fun e w' => e = .returned (supV { s with nw := 0, g := 0 }) ∧ Below w.heap.size w w' := by
  obtain ⟨uu, ev, role, c, k, r, cl, b, nw, g⟩ := s
  unfold supV
  go_enter Try.func54, Try.ntmps54
  go_wp2
  refine bodyPost_ret (v := .agg #[.int .u64 (uu : Int), .int .u64 (ev : Int), .int .i64 role, .int .i64 c, .int .i64 k, .int .i64 r, .bool cl, .int .i64 b, .int .i64 0, .int .i64 0]) (by simp [results, asAddr]; go_simp; try rfl) rfl ⟨rfl, ((Below.refl _ _).alloc (Nat.le_refl _) _).alloc (by simp) _⟩

theorem eqSup (s t : Su) (w : World) : (Op.equalIn 10000 30 (supV s) (supV t)).run Try.prog w = .ok (decide (s = t)) w := by
  obtain ⟨uu, ev, role, c, k, r, cl, b, nw, g⟩ := s
  obtain ⟨uu', ev', role', c', k', r', cl', b', nw', g'⟩ := t
  unfold supV
  rw [run_equalIn_struct w 9999 30 _ _ (by kernel_rfl) (by kernel_rfl)]
  go_simp
  by_cases h : uu = uu'
  case neg => have h' : ¬ (uu : Int) = uu' := by omega
              simp [h, h']
  subst h
  by_cases h : ev = ev'
  case neg => have h' : ¬ (ev : Int) = ev' := by omega
              simp [h, h']
  subst h
  by_cases h : role = role'
  case neg => simp [h]
  subst h
  by_cases h : c = c'
  case neg => simp [h]
  subst h
  by_cases h : k = k'
  case neg => simp [h]
  subst h
  by_cases h : r = r'
  case neg => simp [h]
  subst h
  by_cases h : cl = cl'
  case neg => simp [h]
  subst h
  by_cases h : b = b'
  case neg => simp [h]
  subst h
  by_cases h : nw = nw'
  case neg => simp [h]
  subst h
  by_cases h : g = g'
  case neg => simp [h]
  subst h
  simp

/-- a superblock's cells -/
def SupAt (W : World) (b o : Nat) (s : Su) : Prop :=
  W.cell? ⟨b, o, none⟩ = some (.int .u64 (s.uu : Int)) ∧ W.cell? ⟨b, o + 1, none⟩ = some (.int .u64 (s.ev : Int)) ∧ W.cell? ⟨b, o + 2, none⟩ = some (.int .i64 s.role) ∧ W.cell? ⟨b, o + 3, none⟩ = some (.int .i64 s.c) ∧ W.cell? ⟨b, o + 4, none⟩ = some (.int .i64 s.k) ∧ W.cell? ⟨b, o + 5, none⟩ = some (.int .i64 s.r) ∧ W.cell? ⟨b, o + 6, none⟩ = some (.bool s.cl) ∧ W.cell? ⟨b, o + 7, none⟩ = some (.int .i64 s.b) ∧ W.cell? ⟨b, o + 8, none⟩ = some (.int .i64 s.nw) ∧ W.cell? ⟨b, o + 9, none⟩ = some (.int .i64 s.g)
theorem SupAt.new (w : World) (s : Su) (t : TypeId) : SupAt (w.alloc (.cells (#[.int .u64 (s.uu : Int), .int .u64 (s.ev : Int), .int .i64 s.role, .int .i64 s.c, .int .i64 s.k, .int .i64 s.r, .bool s.cl, .int .i64 s.b, .int .i64 s.nw, .int .i64 s.g]) t)) w.heap.size 0 s := by
  refine ⟨?_, ?_, ?_, ?_, ?_, ?_, ?_, ?_, ?_, ?_⟩ <;> rw [World.cell?_alloc_mark] <;> rfl
theorem SupAt.lt {w : World} {b o : Nat} {s : Su} (h : SupAt w b o s) : b < w.heap.size := World.block_lt_of_cell? w _ h.1
theorem SupAt.below {w W : World} {b o B : Nat} {s : Su} (h : SupAt w b o s) (hb : Below B w W) (hB : b < B) : SupAt W b o s := by
  obtain ⟨h0, h1, h2, h3, h4, h5, h6, h7, h8, h9⟩ := h
  exact ⟨(hb.cell (p := ⟨b, _, none⟩) hB).trans h0, (hb.cell (p := ⟨b, _, none⟩) hB).trans h1, (hb.cell (p := ⟨b, _, none⟩) hB).trans h2, (hb.cell (p := ⟨b, _, none⟩) hB).trans h3, (hb.cell (p := ⟨b, _, none⟩) hB).trans h4, (hb.cell (p := ⟨b, _, none⟩) hB).trans h5, (hb.cell (p := ⟨b, _, none⟩) hB).trans h6, (hb.cell (p := ⟨b, _, none⟩) hB).trans h7, (hb.cell (p := ⟨b, _, none⟩) hB).trans h8, (hb.cell (p := ⟨b, _, none⟩) hB).trans h9⟩
/-- a superblock's cells stay over a call that leaves what lay below -/
theorem det_sup {P : Program} {f : FuncId} {args : Array Value} {v : Value} {wr W : World} {b B : Nat} {s : Su} (hB : B ≤ wr.heap.size) (h : Calls P f args W fun e w' => e = .returned v ∧ Below W.heap.size W w')
    (hW : SupAt W b 0 s ∧ Below B wr W) : Calls P f args W fun e w' => e = .returned v ∧ SupAt w' b 0 s ∧ Below B wr w' :=
  h.mono fun _ _ ⟨e, hb⟩ => ⟨e, hW.1.below hb hW.1.lt, hW.2.trans (hb.mono (Nat.le_trans hB hW.2.size))⟩

set_option maxRecDepth 100000 in
set_option maxHeartbeats 2000000 in
theorem mayGrow_still (uu ev : Nat) (role c k r : Int) (cl : Bool) (b nw g : Int) (hq : nw = 0 ∧ g = 0) (w : World) :
    Calls Try.prog 40 #[supV ⟨uu, ev, role, c, k, r, cl, b, nw, g⟩] w fun e w' => e = .returned (.bool true) ∧ Below w.heap.size w w' := by
  have HE : ∀ w, (Op.equalIn 10000 30 (supV ⟨uu, ev, role, c, k, r, cl, b, nw, g⟩) (supV ⟨uu, ev, role, c, k, r, cl, b, 0, 0⟩)).run Try.prog w = .ok true w := fun w => by rw [eqSup]; congr 1; simp [hq]
  have HS := fun W => still_any ⟨uu, ev, role, c, k, r, cl, b, nw, g⟩ W
  have HMX : Hid (Try.prog.follows .mixedOrders = true) := by show _ = _; kernel_rfl
  have HN : Hid _ := SupAt.new w ⟨uu, ev, role, c, k, r, cl, b, nw, g⟩ 30
  unfold supV at *
  clear hq
  dsimp only at HE HS HN ⊢
  go_enter Try.func40, Try.ntmps40
  go_wp2_with fail
  refine region_det (fun W => (W.cell? ⟨w.heap.size, 0, none⟩ = some (.int .u64 (uu : Int)) ∧ W.cell? ⟨w.heap.size, 1, none⟩ = some (.int .u64 (ev : Int)) ∧ W.cell? ⟨w.heap.size, 2, none⟩ = some (.int .i64 role) ∧ W.cell? ⟨w.heap.size, 3, none⟩ = some (.int .i64 c) ∧ W.cell? ⟨w.heap.size, 4, none⟩ = some (.int .i64 k) ∧ W.cell? ⟨w.heap.size, 5, none⟩ = some (.int .i64 r) ∧ W.cell? ⟨w.heap.size, 6, none⟩ = some (.bool cl) ∧ W.cell? ⟨w.heap.size, 7, none⟩ = some (.int .i64 b) ∧ W.cell? ⟨w.heap.size, 8, none⟩ = some (.int .i64 nw) ∧ W.cell? ⟨w.heap.size, 9, none⟩ = some (.int .i64 g)) ∧ Below w.heap.size w W) HMX.out (by kernel_rfl) ⟨HN.out, ((Below.refl _ _).alloc (Nat.le_refl _) _).drew⟩ ?_
  refine det_read 0 (v := ?vx1) rfl (by kernel_rfl) rfl ?hyx1 ?restx1
  case hyx1 => (intro wS hSw; (try dsimp only at hSw); go_simp; try with_reducible rfl)
  try simp only [Act.put, List.setIfInBounds_toArray, List.set_cons_zero, List.set_cons_succ]
  refine det_read 1 (v := ?vx2) rfl (by kernel_rfl) rfl ?hyx2 ?restx2
  case hyx2 => (intro wS hSw; (try dsimp only at hSw); go_simp; try with_reducible rfl)
  try simp only [Act.put, List.setIfInBounds_toArray, List.set_cons_zero, List.set_cons_succ]
  refine det_call 2 rfl (by kernel_rfl) rfl ?hyx52 (fun W h => det_sup (s := ⟨uu, ev, role, c, k, r, cl, b, nw, g⟩) (Nat.le_refl _) (HS W) h) ?restx52
  case hyx52 => (intro wS hSw; go_simp; try with_reducible rfl)
  try simp only [Act.put, List.setIfInBounds_toArray, List.set_cons_zero, List.set_cons_succ]
  refine det_read 3 (v := ?vx3) rfl (by kernel_rfl) rfl ?hyx3 ?restx3
  case hyx3 => (intro wS hSw; (try dsimp only at hSw); go_simp; try with_reducible rfl)
  try simp only [Act.put, List.setIfInBounds_toArray, List.set_cons_zero, List.set_cons_succ]
  refine det_read 4 (v := ?vx4) rfl (by kernel_rfl) rfl ?hyx4 ?restx4
  case hyx4 => (intro wS hSw; (try dsimp only at hSw); go_simp; try with_reducible rfl)
  try simp only [Act.put, List.setIfInBounds_toArray, List.set_cons_zero, List.set_cons_succ]
  refine det_skip 5 rfl (by kernel_rfl) rfl ?restx38
  try simp only [Act.put, List.setIfInBounds_toArray, List.set_cons_zero, List.set_cons_succ]
  refine det_skip 6 rfl (by kernel_rfl) rfl ?restx39
  try simp only [Act.put, List.setIfInBounds_toArray, List.set_cons_zero, List.set_cons_succ]
  refine det_skip 7 rfl (by kernel_rfl) rfl ?restx40
  try simp only [Act.put, List.setIfInBounds_toArray, List.set_cons_zero, List.set_cons_succ]
  refine det_skip 8 rfl (by kernel_rfl) rfl ?restx41
  try simp only [Act.put, List.setIfInBounds_toArray, List.set_cons_zero, List.set_cons_succ]
  refine det_skip 9 rfl (by kernel_rfl) rfl ?restx42
  try simp only [Act.put, List.setIfInBounds_toArray, List.set_cons_zero, List.set_cons_succ]
  refine det_skip 10 rfl (by kernel_rfl) rfl ?restx43
  try simp only [Act.put, List.setIfInBounds_toArray, List.set_cons_zero, List.set_cons_succ]
  refine det_skip 11 rfl (by kernel_rfl) rfl ?restx44
  try simp only [Act.put, List.setIfInBounds_toArray, List.set_cons_zero, List.set_cons_succ]
  refine det_skip 12 rfl (by kernel_rfl) rfl ?restx45
  try simp only [Act.put, List.setIfInBounds_toArray, List.set_cons_zero, List.set_cons_succ]
  refine det_skip 13 rfl (by kernel_rfl) rfl ?restx46
  try simp only [Act.put, List.setIfInBounds_toArray, List.set_cons_zero, List.set_cons_succ]
  refine det_skip 14 rfl (by kernel_rfl) rfl ?restx47
  try simp only [Act.put, List.setIfInBounds_toArray, List.set_cons_zero, List.set_cons_succ]
  refine det_skip 15 rfl (by kernel_rfl) rfl ?restx48
  try simp only [Act.put, List.setIfInBounds_toArray, List.set_cons_zero, List.set_cons_succ]
  refine det_read 16 (v := ?vx5) rfl (by kernel_rfl) rfl ?hyx5 ?restx5
  case hyx5 => (intro wS hSw; (try dsimp only at hSw); go_simp; try with_reducible rfl)
  try simp only [Act.put, List.setIfInBounds_toArray, List.set_cons_zero, List.set_cons_succ]
  refine det_read 17 (v := ?vx6) rfl (by kernel_rfl) rfl ?hyx6 ?restx6
  case hyx6 => (intro wS hSw; (try dsimp only at hSw); go_simp; try with_reducible rfl)
  try simp only [Act.put, List.setIfInBounds_toArray, List.set_cons_zero, List.set_cons_succ]
  refine det_done (by kernel_rfl) ?_
  rintro W ⟨_, HB⟩
  go_wp2
  go_ret
  exact ⟨rfl, HB⟩
set_option maxRecDepth 100000 in
set_option maxHeartbeats 2000000 in
theorem mayGrow_low (uu ev : Nat) (role c k r : Int) (cl : Bool) (b nw g : Int) (hq : ¬ (nw = 0 ∧ g = 0)) (h1 : ¬ c < nw) (w : World) :
    Calls Try.prog 40 #[supV ⟨uu, ev, role, c, k, r, cl, b, nw, g⟩] w fun e w' => e = .returned (.bool false) ∧ Below w.heap.size w w' := by
  have HE : ∀ w, (Op.equalIn 10000 30 (supV ⟨uu, ev, role, c, k, r, cl, b, nw, g⟩) (supV ⟨uu, ev, role, c, k, r, cl, b, 0, 0⟩)).run Try.prog w = .ok false w := fun w => by rw [eqSup]; congr 1; simp [hq]
  have HS := fun W => still_any ⟨uu, ev, role, c, k, r, cl, b, nw, g⟩ W
  have HMX : Hid (Try.prog.follows .mixedOrders = true) := by show _ = _; kernel_rfl
  have HN : Hid _ := SupAt.new w ⟨uu, ev, role, c, k, r, cl, b, nw, g⟩ 30
  unfold supV at *
  clear hq
  have hd : decide (c < nw) = false := decide_eq_false h1
  dsimp only at HE HS HN ⊢
  go_enter Try.func40, Try.ntmps40
  go_wp2_with fail
  refine region_det (fun W => (W.cell? ⟨w.heap.size, 0, none⟩ = some (.int .u64 (uu : Int)) ∧ W.cell? ⟨w.heap.size, 1, none⟩ = some (.int .u64 (ev : Int)) ∧ W.cell? ⟨w.heap.size, 2, none⟩ = some (.int .i64 role) ∧ W.cell? ⟨w.heap.size, 3, none⟩ = some (.int .i64 c) ∧ W.cell? ⟨w.heap.size, 4, none⟩ = some (.int .i64 k) ∧ W.cell? ⟨w.heap.size, 5, none⟩ = some (.int .i64 r) ∧ W.cell? ⟨w.heap.size, 6, none⟩ = some (.bool cl) ∧ W.cell? ⟨w.heap.size, 7, none⟩ = some (.int .i64 b) ∧ W.cell? ⟨w.heap.size, 8, none⟩ = some (.int .i64 nw) ∧ W.cell? ⟨w.heap.size, 9, none⟩ = some (.int .i64 g)) ∧ Below w.heap.size w W) HMX.out (by kernel_rfl) ⟨HN.out, ((Below.refl _ _).alloc (Nat.le_refl _) _).drew⟩ ?_
  refine det_read 0 (v := ?vx7) rfl (by kernel_rfl) rfl ?hyx7 ?restx7
  case hyx7 => (intro wS hSw; (try dsimp only at hSw); go_simp; try with_reducible rfl)
  try simp only [Act.put, List.setIfInBounds_toArray, List.set_cons_zero, List.set_cons_succ]
  refine det_read 1 (v := ?vx8) rfl (by kernel_rfl) rfl ?hyx8 ?restx8
  case hyx8 => (intro wS hSw; (try dsimp only at hSw); go_simp; try with_reducible rfl)
  try simp only [Act.put, List.setIfInBounds_toArray, List.set_cons_zero, List.set_cons_succ]
  refine det_call 2 rfl (by kernel_rfl) rfl ?hyx53 (fun W h => det_sup (s := ⟨uu, ev, role, c, k, r, cl, b, nw, g⟩) (Nat.le_refl _) (HS W) h) ?restx53
  case hyx53 => (intro wS hSw; go_simp; try with_reducible rfl)
  try simp only [Act.put, List.setIfInBounds_toArray, List.set_cons_zero, List.set_cons_succ]
  refine det_read 3 (v := ?vx9) rfl (by kernel_rfl) rfl ?hyx9 ?restx9
  case hyx9 => (intro wS hSw; (try dsimp only at hSw); go_simp; try with_reducible rfl)
  try simp only [Act.put, List.setIfInBounds_toArray, List.set_cons_zero, List.set_cons_succ]
  refine det_read 4 (v := ?vx10) rfl (by kernel_rfl) rfl ?hyx10 ?restx10
  case hyx10 => (intro wS hSw; (try dsimp only at hSw); go_simp; try with_reducible rfl)
  try simp only [Act.put, List.setIfInBounds_toArray, List.set_cons_zero, List.set_cons_succ]
  refine det_read 5 (v := ?vx11) rfl (by kernel_rfl) rfl ?hyx11 ?restx11
  case hyx11 => (intro wS hSw; (try dsimp only at hSw); go_simp; try with_reducible rfl)
  try simp only [Act.put, List.setIfInBounds_toArray, List.set_cons_zero, List.set_cons_succ]
  refine det_read 6 (v := ?vx12) rfl (by kernel_rfl) rfl ?hyx12 ?restx12
  case hyx12 => (intro wS hSw; (try dsimp only at hSw); go_simp; try with_reducible rfl)
  try simp only [Act.put, List.setIfInBounds_toArray, List.set_cons_zero, List.set_cons_succ]
  refine det_read 7 (v := ?vx13) rfl (by kernel_rfl) rfl ?hyx13 ?restx13
  case hyx13 => (intro wS hSw; (try dsimp only at hSw); go_simp; try with_reducible rfl)
  try simp only [Act.put, List.setIfInBounds_toArray, List.set_cons_zero, List.set_cons_succ]
  refine det_read 8 (v := ?vx14) rfl (by kernel_rfl) rfl ?hyx14 ?restx14
  case hyx14 => (intro wS hSw; (try dsimp only at hSw); go_simp; try with_reducible rfl)
  try simp only [Act.put, List.setIfInBounds_toArray, List.set_cons_zero, List.set_cons_succ]
  refine det_read 9 (v := ?vx15) rfl (by kernel_rfl) rfl ?hyx15 ?restx15
  case hyx15 => (intro wS hSw; (try dsimp only at hSw); go_simp; try with_reducible rfl)
  try simp only [Act.put, List.setIfInBounds_toArray, List.set_cons_zero, List.set_cons_succ]
  refine det_read 10 (v := ?vx16) rfl (by kernel_rfl) rfl ?hyx16 ?restx16
  case hyx16 => (intro wS hSw; (try dsimp only at hSw); go_simp; try with_reducible rfl)
  try simp only [Act.put, List.setIfInBounds_toArray, List.set_cons_zero, List.set_cons_succ]
  refine det_read 11 (v := ?vx17) rfl (by kernel_rfl) rfl ?hyx17 ?restx17
  case hyx17 => (intro wS hSw; (try dsimp only at hSw); go_simp; try with_reducible rfl)
  try simp only [Act.put, List.setIfInBounds_toArray, List.set_cons_zero, List.set_cons_succ]
  refine det_skip 12 rfl (by kernel_rfl) rfl ?restx49
  try simp only [Act.put, List.setIfInBounds_toArray, List.set_cons_zero, List.set_cons_succ]
  refine det_skip 13 rfl (by kernel_rfl) rfl ?restx50
  try simp only [Act.put, List.setIfInBounds_toArray, List.set_cons_zero, List.set_cons_succ]
  refine det_skip 14 rfl (by kernel_rfl) rfl ?restx51
  try simp only [Act.put, List.setIfInBounds_toArray, List.set_cons_zero, List.set_cons_succ]
  refine det_read 15 (v := ?vx18) rfl (by kernel_rfl) rfl ?hyx18 ?restx18
  case hyx18 => (intro wS hSw; (try dsimp only at hSw); go_simp; try with_reducible rfl)
  try simp only [Act.put, List.setIfInBounds_toArray, List.set_cons_zero, List.set_cons_succ]
  refine det_read 16 (v := ?vx19) rfl (by kernel_rfl) rfl ?hyx19 ?restx19
  case hyx19 => (intro wS hSw; (try dsimp only at hSw); go_simp; try with_reducible rfl)
  try simp only [Act.put, List.setIfInBounds_toArray, List.set_cons_zero, List.set_cons_succ]
  refine det_read 17 (v := ?vx20) rfl (by kernel_rfl) rfl ?hyx20 ?restx20
  case hyx20 => (intro wS hSw; (try dsimp only at hSw); go_simp; try with_reducible rfl)
  try simp only [Act.put, List.setIfInBounds_toArray, List.set_cons_zero, List.set_cons_succ]
  refine det_done (by kernel_rfl) ?_
  rintro W ⟨_, HB⟩
  go_wp2
  go_ret
  exact ⟨rfl, HB⟩
set_option maxRecDepth 100000 in
set_option maxHeartbeats 2000000 in
theorem mayGrow_up (uu ev : Nat) (role c k r : Int) (cl : Bool) (b nw g : Int) (hq : ¬ (nw = 0 ∧ g = 0)) (h1 : c < nw) (w : World) :
    Calls Try.prog 40 #[supV ⟨uu, ev, role, c, k, r, cl, b, nw, g⟩] w fun e w' => e = .returned (.bool (decide (nw ≤ 10))) ∧ Below w.heap.size w w' := by
  have HE : ∀ w, (Op.equalIn 10000 30 (supV ⟨uu, ev, role, c, k, r, cl, b, nw, g⟩) (supV ⟨uu, ev, role, c, k, r, cl, b, 0, 0⟩)).run Try.prog w = .ok false w := fun w => by rw [eqSup]; congr 1; simp [hq]
  have HS := fun W => still_any ⟨uu, ev, role, c, k, r, cl, b, nw, g⟩ W
  have HMX : Hid (Try.prog.follows .mixedOrders = true) := by show _ = _; kernel_rfl
  have HN : Hid _ := SupAt.new w ⟨uu, ev, role, c, k, r, cl, b, nw, g⟩ 30
  unfold supV at *
  clear hq
  have hd : decide (c < nw) = true := decide_eq_true h1
  dsimp only at HE HS HN ⊢
  go_enter Try.func40, Try.ntmps40
  go_wp2_with fail
  refine region_det (fun W => (W.cell? ⟨w.heap.size, 0, none⟩ = some (.int .u64 (uu : Int)) ∧ W.cell? ⟨w.heap.size, 1, none⟩ = some (.int .u64 (ev : Int)) ∧ W.cell? ⟨w.heap.size, 2, none⟩ = some (.int .i64 role) ∧ W.cell? ⟨w.heap.size, 3, none⟩ = some (.int .i64 c) ∧ W.cell? ⟨w.heap.size, 4, none⟩ = some (.int .i64 k) ∧ W.cell? ⟨w.heap.size, 5, none⟩ = some (.int .i64 r) ∧ W.cell? ⟨w.heap.size, 6, none⟩ = some (.bool cl) ∧ W.cell? ⟨w.heap.size, 7, none⟩ = some (.int .i64 b) ∧ W.cell? ⟨w.heap.size, 8, none⟩ = some (.int .i64 nw) ∧ W.cell? ⟨w.heap.size, 9, none⟩ = some (.int .i64 g)) ∧ Below w.heap.size w W) HMX.out (by kernel_rfl) ⟨HN.out, ((Below.refl _ _).alloc (Nat.le_refl _) _).drew⟩ ?_
  refine det_read 0 (v := ?vx21) rfl (by kernel_rfl) rfl ?hyx21 ?restx21
  case hyx21 => (intro wS hSw; (try dsimp only at hSw); go_simp; try with_reducible rfl)
  try simp only [Act.put, List.setIfInBounds_toArray, List.set_cons_zero, List.set_cons_succ]
  refine det_read 1 (v := ?vx22) rfl (by kernel_rfl) rfl ?hyx22 ?restx22
  case hyx22 => (intro wS hSw; (try dsimp only at hSw); go_simp; try with_reducible rfl)
  try simp only [Act.put, List.setIfInBounds_toArray, List.set_cons_zero, List.set_cons_succ]
  refine det_call 2 rfl (by kernel_rfl) rfl ?hyx54 (fun W h => det_sup (s := ⟨uu, ev, role, c, k, r, cl, b, nw, g⟩) (Nat.le_refl _) (HS W) h) ?restx54
  case hyx54 => (intro wS hSw; go_simp; try with_reducible rfl)
  try simp only [Act.put, List.setIfInBounds_toArray, List.set_cons_zero, List.set_cons_succ]
  refine det_read 3 (v := ?vx23) rfl (by kernel_rfl) rfl ?hyx23 ?restx23
  case hyx23 => (intro wS hSw; (try dsimp only at hSw); go_simp; try with_reducible rfl)
  try simp only [Act.put, List.setIfInBounds_toArray, List.set_cons_zero, List.set_cons_succ]
  refine det_read 4 (v := ?vx24) rfl (by kernel_rfl) rfl ?hyx24 ?restx24
  case hyx24 => (intro wS hSw; (try dsimp only at hSw); go_simp; try with_reducible rfl)
  try simp only [Act.put, List.setIfInBounds_toArray, List.set_cons_zero, List.set_cons_succ]
  refine det_read 5 (v := ?vx25) rfl (by kernel_rfl) rfl ?hyx25 ?restx25
  case hyx25 => (intro wS hSw; (try dsimp only at hSw); go_simp; try with_reducible rfl)
  try simp only [Act.put, List.setIfInBounds_toArray, List.set_cons_zero, List.set_cons_succ]
  refine det_read 6 (v := ?vx26) rfl (by kernel_rfl) rfl ?hyx26 ?restx26
  case hyx26 => (intro wS hSw; (try dsimp only at hSw); go_simp; try with_reducible rfl)
  try simp only [Act.put, List.setIfInBounds_toArray, List.set_cons_zero, List.set_cons_succ]
  refine det_read 7 (v := ?vx27) rfl (by kernel_rfl) rfl ?hyx27 ?restx27
  case hyx27 => (intro wS hSw; (try dsimp only at hSw); go_simp; try with_reducible rfl)
  try simp only [Act.put, List.setIfInBounds_toArray, List.set_cons_zero, List.set_cons_succ]
  refine det_read 8 (v := ?vx28) rfl (by kernel_rfl) rfl ?hyx28 ?restx28
  case hyx28 => (intro wS hSw; (try dsimp only at hSw); go_simp; try with_reducible rfl)
  try simp only [Act.put, List.setIfInBounds_toArray, List.set_cons_zero, List.set_cons_succ]
  refine det_read 9 (v := ?vx29) rfl (by kernel_rfl) rfl ?hyx29 ?restx29
  case hyx29 => (intro wS hSw; (try dsimp only at hSw); go_simp; try with_reducible rfl)
  try simp only [Act.put, List.setIfInBounds_toArray, List.set_cons_zero, List.set_cons_succ]
  refine det_read 10 (v := ?vx30) rfl (by kernel_rfl) rfl ?hyx30 ?restx30
  case hyx30 => (intro wS hSw; (try dsimp only at hSw); go_simp; try with_reducible rfl)
  try simp only [Act.put, List.setIfInBounds_toArray, List.set_cons_zero, List.set_cons_succ]
  refine det_read 11 (v := ?vx31) rfl (by kernel_rfl) rfl ?hyx31 ?restx31
  case hyx31 => (intro wS hSw; (try dsimp only at hSw); go_simp; try with_reducible rfl)
  try simp only [Act.put, List.setIfInBounds_toArray, List.set_cons_zero, List.set_cons_succ]
  refine det_read 12 (v := ?vx32) rfl (by kernel_rfl) rfl ?hyx32 ?restx32
  case hyx32 => (intro wS hSw; (try dsimp only at hSw); go_simp; try with_reducible rfl)
  try simp only [Act.put, List.setIfInBounds_toArray, List.set_cons_zero, List.set_cons_succ]
  refine det_read 13 (v := ?vx33) rfl (by kernel_rfl) rfl ?hyx33 ?restx33
  case hyx33 => (intro wS hSw; (try dsimp only at hSw); go_simp; try with_reducible rfl)
  try simp only [Act.put, List.setIfInBounds_toArray, List.set_cons_zero, List.set_cons_succ]
  refine det_read 14 (v := ?vx34) rfl (by kernel_rfl) rfl ?hyx34 ?restx34
  case hyx34 => (intro wS hSw; (try dsimp only at hSw); go_simp; try with_reducible rfl)
  try simp only [Act.put, List.setIfInBounds_toArray, List.set_cons_zero, List.set_cons_succ]
  refine det_read 15 (v := ?vx35) rfl (by kernel_rfl) rfl ?hyx35 ?restx35
  case hyx35 => (intro wS hSw; (try dsimp only at hSw); go_simp; try with_reducible rfl)
  try simp only [Act.put, List.setIfInBounds_toArray, List.set_cons_zero, List.set_cons_succ]
  refine det_read 16 (v := ?vx36) rfl (by kernel_rfl) rfl ?hyx36 ?restx36
  case hyx36 => (intro wS hSw; (try dsimp only at hSw); go_simp; try with_reducible rfl)
  try simp only [Act.put, List.setIfInBounds_toArray, List.set_cons_zero, List.set_cons_succ]
  refine det_read 17 (v := ?vx37) rfl (by kernel_rfl) rfl ?hyx37 ?restx37
  case hyx37 => (intro wS hSw; (try dsimp only at hSw); go_simp; try with_reducible rfl)
  try simp only [Act.put, List.setIfInBounds_toArray, List.set_cons_zero, List.set_cons_succ]
  refine det_done (by kernel_rfl) ?_
  rintro W ⟨_, HB⟩
  go_wp2
  go_ret
  exact ⟨rfl, HB⟩
end Go.Proofs.Ytgkhnfchohcjeaa

namespace Go.Proofs.Ytgkhnfchohcjeaa
open Go.RowKit

/-- whether it does not grow, or may -/
def growB (s : Su) : Bool := decide (s.nw = 0 ∧ s.g = 0) || (decide (s.c < s.nw) && decide (s.nw ≤ 10))
theorem mayGrow_any (uu ev : Nat) (role c k r : Int) (cl : Bool) (b nw g : Int) (w : World) :
    Calls Try.prog 40 #[supV ⟨uu, ev, role, c, k, r, cl, b, nw, g⟩] w fun e w' => e = .returned (.bool (growB ⟨uu, ev, role, c, k, r, cl, b, nw, g⟩)) ∧ Below w.heap.size w w' := by
  by_cases hq : nw = 0 ∧ g = 0
  · have E : growB ⟨uu, ev, role, c, k, r, cl, b, nw, g⟩ = true := by simp [growB, hq]
    rw [E]; exact mayGrow_still uu ev role c k r cl b nw g hq w
  · by_cases h1 : c < nw
    · have E : growB ⟨uu, ev, role, c, k, r, cl, b, nw, g⟩ = decide (nw ≤ 10) := by simp [growB, hq, h1]
      rw [E]; exact mayGrow_up uu ev role c k r cl b nw g hq h1 w
    · have E : growB ⟨uu, ev, role, c, k, r, cl, b, nw, g⟩ = false := by simp [growB, hq, h1]
      rw [E]; exact mayGrow_low uu ev role c k r cl b nw g hq h1 w
/-- the same by the walk's own words: whether it is a column -/
noncomputable def mayW (s : Su) (x : Int) : Bool := decide (s.uu ≠ 0) && decide (Lay.checkI s.c s.k s.r = 0) && growB s && (decide (s.role = 254) || decide (s.role = 255) || upB s.role x) && upB s.b s.r && upB s.g s.r
theorem max_run (c nw M : Int) (hM : max c nw = M) : ∀ (ts : Array TypeId) (ty : TypeId) (W : World), (Builtin.max_ ts ty #[.int .i64 c, .int .i64 nw]).run Try.prog W = .ok (.int .i64 M) W := by
  intro ts ty W
  subst hM
  simp [Builtin.max_, Builtin.max2]
  omega
/-- behind the two closures: where the superblock lies, and what each remembers -/
theorem may_start (w : World) (s : Su) (x y : Int) : let w1 := ((w.alloc (.cells #[.int .u64 (s.uu : Int), .int .u64 (s.ev : Int), .int .i64 s.role, .int .i64 s.c, .int .i64 s.k, .int .i64 s.r, .bool s.cl, .int .i64 s.b, .int .i64 s.nw, .int .i64 s.g] 30)).alloc (.cells #[.int .i64 x] 3)).alloc (.cells #[.int .i64 y] 3)
    SupAt w1 w.heap.size 0 s ∧ w1.cell? ⟨w.heap.size + 1, 0, none⟩ = some (.int .i64 x) ∧ w1.cell? ⟨w.heap.size + 1 + 1, 0, none⟩ = some (.int .i64 y) ∧ Below w.heap.size w w1 := by
  intro w1
  have b1 : Below w.heap.size w w1 := (((Below.refl _ _).alloc (Nat.le_refl _) _).alloc (by simp) _).alloc (by simp; omega) _
  refine ⟨(SupAt.new w s _).below (B := w.heap.size + 1) (((Below.refl _ _).alloc (by simp) _).alloc (by simp) _) (by omega), ?_, ?_, b1⟩
  · have _h := World.cell?_alloc_mark (w.alloc (.cells #[.int .u64 (s.uu : Int), .int .u64 (s.ev : Int), .int .i64 s.role, .int .i64 s.c, .int .i64 s.k, .int .i64 s.r, .bool s.cl, .int .i64 s.b, .int .i64 s.nw, .int .i64 s.g] 30)) #[.int .i64 x] 3 (0, 0) 0
    have hb : Below (w.heap.size + 2) ((w.alloc (.cells #[.int .u64 (s.uu : Int), .int .u64 (s.ev : Int), .int .i64 s.role, .int .i64 s.c, .int .i64 s.k, .int .i64 s.r, .bool s.cl, .int .i64 s.b, .int .i64 s.nw, .int .i64 s.g] 30)).alloc (.cells #[.int .i64 x] 3)) w1 := (Below.refl _ _).alloc (by simp) _
    have e : w1.cell? ⟨w.heap.size + 1, 0, none⟩ = _ := hb.cell (p := ⟨w.heap.size + 1, 0, none⟩) (show w.heap.size + 1 < w.heap.size + 2 by omega)
    rw [e]
    simp
  · have h := World.cell?_alloc_mark ((w.alloc (.cells #[.int .u64 (s.uu : Int), .int .u64 (s.ev : Int), .int .i64 s.role, .int .i64 s.c, .int .i64 s.k, .int .i64 s.r, .bool s.cl, .int .i64 s.b, .int .i64 s.nw, .int .i64 s.g] 30)).alloc (.cells #[.int .i64 x] 3)) #[.int .i64 y] 3 (0, 0) 0
    simp at h ⊢
    exact h
set_option maxRecDepth 100000 in
set_option maxHeartbeats 2000000 in
theorem may_a0 (uu ev : Nat) (role c k r : Int) (cl : Bool) (b nw g : Int) (M x : Int) (hM : max c nw = M) (hx : IntKind.i64.wrap (M - 1) = x) (hr : role = 254) (hu : uu = 0) (w : World) :
    Calls Try.prog 24 #[supV ⟨uu, ev, role, c, k, r, cl, b, nw, g⟩] w fun e w' => e = .returned (.bool false) ∧ Below w.heap.size w w' := by
  have hmax := max_run c nw M hM
  have HK := fun W => Check_any c k r W
  have HG := fun W => mayGrow_any uu ev role c k r cl b nw g W
  have HST : Hid _ := may_start w ⟨uu, ev, role, c, k, r, cl, b, nw, g⟩ x r
  have U1 := fun a W h => upTo1_any role x a W h
  have U2 := fun a W h => upTo1_any b r a W h
  have U3 := fun a W h => upTo1_any g r a W h
  have r1 : decide (role = 254) = true := decide_eq_true hr
  have r1' : (role == 254) = true := by simp [hr]
  have u1 : ((uu : Int) != 0) = false := by simp [hu]
  obtain ⟨ck, hck⟩ : ∃ ck, Lay.checkI c k r = ck := ⟨_, rfl⟩
  obtain ⟨gr, hgr⟩ : ∃ gr, growB ⟨uu, ev, role, c, k, r, cl, b, nw, g⟩ = gr := ⟨_, rfl⟩
  obtain ⟨R, hRR⟩ : ∃ R, upB role x = R := ⟨_, rfl⟩
  obtain ⟨B, hBB⟩ : ∃ B, upB b r = B := ⟨_, rfl⟩
  rw [hck] at HK; rw [hgr] at HG; rw [hRR] at U1; rw [hBB] at U2
  unfold supV at *
  unfold geoV at HK
  dsimp only at HST HG ⊢
  clear hck hgr hRR hBB hM hr hu r1
  go_enter Try.func24, Try.ntmps24
  go_wp2_with fail
  refine (upTo_any x _).mono ?_
  rintro e w' ⟨rfl, rfl⟩
  go_wp2_with fail
  refine (upTo_any r _).mono ?_
  rintro e w1 ⟨rfl, hw1⟩
  have HS := HST.out
  rw [← hw1] at HS
  simp only [World.size_alloc]
  clear HST hw1
  obtain ⟨⟨m0, m1, m2, m3, m4, m5, m6, m7, m8, m9⟩, n1, n2, HB⟩ := HS
  simp only [Nat.zero_add] at m1 m2 m3 m4 m5 m6 m7 m8 m9
  dsimp only at m0 m1 m2 m3 m4 m5 m6 m7 m8 m9
  go_wp2
  go_ret
  exact ⟨rfl, HB⟩
set_option maxRecDepth 100000 in
set_option maxHeartbeats 2000000 in
theorem may_a1 (uu ev : Nat) (role c k r : Int) (cl : Bool) (b nw g : Int) (M x : Int) (hM : max c nw = M) (hx : IntKind.i64.wrap (M - 1) = x) (hr : role = 254) (hu : uu ≠ 0) (hk : Lay.checkI c k r ≠ 0) (w : World) :
    Calls Try.prog 24 #[supV ⟨uu, ev, role, c, k, r, cl, b, nw, g⟩] w fun e w' => e = .returned (.bool false) ∧ Below w.heap.size w w' := by
  have hmax := max_run c nw M hM
  have HK := fun W => Check_any c k r W
  have HG := fun W => mayGrow_any uu ev role c k r cl b nw g W
  have HST : Hid _ := may_start w ⟨uu, ev, role, c, k, r, cl, b, nw, g⟩ x r
  have U1 := fun a W h => upTo1_any role x a W h
  have U2 := fun a W h => upTo1_any b r a W h
  have U3 := fun a W h => upTo1_any g r a W h
  have r1 : decide (role = 254) = true := decide_eq_true hr
  have r1' : (role == 254) = true := by simp [hr]
  have u1 : ((uu : Int) != 0) = true := by simp; omega
  obtain ⟨ck, hck⟩ : ∃ ck, Lay.checkI c k r = ck := ⟨_, rfl⟩
  obtain ⟨gr, hgr⟩ : ∃ gr, growB ⟨uu, ev, role, c, k, r, cl, b, nw, g⟩ = gr := ⟨_, rfl⟩
  obtain ⟨R, hRR⟩ : ∃ R, upB role x = R := ⟨_, rfl⟩
  obtain ⟨B, hBB⟩ : ∃ B, upB b r = B := ⟨_, rfl⟩
  rw [hck] at hk
  rw [hck] at HK; rw [hgr] at HG; rw [hRR] at U1; rw [hBB] at U2
  have c1 : (ck == 0) = false := by simp [hk]
  unfold supV at *
  unfold geoV at HK
  dsimp only at HST HG ⊢
  clear hck hgr hRR hBB hM hr hu r1 hk
  go_enter Try.func24, Try.ntmps24
  go_wp2_with fail
  refine (upTo_any x _).mono ?_
  rintro e w' ⟨rfl, rfl⟩
  go_wp2_with fail
  refine (upTo_any r _).mono ?_
  rintro e w1 ⟨rfl, hw1⟩
  have HS := HST.out
  rw [← hw1] at HS
  simp only [World.size_alloc]
  clear HST hw1
  obtain ⟨⟨m0, m1, m2, m3, m4, m5, m6, m7, m8, m9⟩, n1, n2, HB⟩ := HS
  simp only [Nat.zero_add] at m1 m2 m3 m4 m5 m6 m7 m8 m9
  dsimp only at m0 m1 m2 m3 m4 m5 m6 m7 m8 m9
  go_wp2_with fail
  refine (HK _).mono ?_
  rintro e w2 ⟨rfl, B2⟩
  have S2 : Hid _ := B2
  have lt1 : w.heap.size < w1.heap.size := World.block_lt_of_cell? w1 _ m0
  have lt2 : w.heap.size + 1 < w1.heap.size := World.block_lt_of_cell? w1 _ n1
  have lt3 : w.heap.size + 1 + 1 < w1.heap.size := World.block_lt_of_cell? w1 _ n2
  have p0 := (B2.cell (p := ⟨w.heap.size, 0, none⟩) lt1).trans m0
  have p1 := (B2.cell (p := ⟨w.heap.size, 1, none⟩) lt1).trans m1
  have p2 := (B2.cell (p := ⟨w.heap.size, 2, none⟩) lt1).trans m2
  have p3 := (B2.cell (p := ⟨w.heap.size, 3, none⟩) lt1).trans m3
  have p4 := (B2.cell (p := ⟨w.heap.size, 4, none⟩) lt1).trans m4
  have p5 := (B2.cell (p := ⟨w.heap.size, 5, none⟩) lt1).trans m5
  have p6 := (B2.cell (p := ⟨w.heap.size, 6, none⟩) lt1).trans m6
  have p7 := (B2.cell (p := ⟨w.heap.size, 7, none⟩) lt1).trans m7
  have p8 := (B2.cell (p := ⟨w.heap.size, 8, none⟩) lt1).trans m8
  have p9 := (B2.cell (p := ⟨w.heap.size, 9, none⟩) lt1).trans m9
  have q2 := (B2.cell (p := ⟨w.heap.size + 1 + 1, 0, none⟩) lt3).trans n2
  clear B2
  go_wp2
  go_ret
  exact ⟨rfl, below2 HB S2.out⟩
set_option maxRecDepth 100000 in
set_option maxHeartbeats 2000000 in
theorem may_a2 (uu ev : Nat) (role c k r : Int) (cl : Bool) (b nw g : Int) (M x : Int) (hM : max c nw = M) (hx : IntKind.i64.wrap (M - 1) = x) (hr : role = 254) (hu : uu ≠ 0) (hk : Lay.checkI c k r = 0) (hg : growB ⟨uu, ev, role, c, k, r, cl, b, nw, g⟩ = false) (w : World) :
    Calls Try.prog 24 #[supV ⟨uu, ev, role, c, k, r, cl, b, nw, g⟩] w fun e w' => e = .returned (.bool false) ∧ Below w.heap.size w w' := by
  have hmax := max_run c nw M hM
  have HK := fun W => Check_any c k r W
  have HG := fun W => mayGrow_any uu ev role c k r cl b nw g W
  have HST : Hid _ := may_start w ⟨uu, ev, role, c, k, r, cl, b, nw, g⟩ x r
  have U1 := fun a W h => upTo1_any role x a W h
  have U2 := fun a W h => upTo1_any b r a W h
  have U3 := fun a W h => upTo1_any g r a W h
  have r1 : decide (role = 254) = true := decide_eq_true hr
  have r1' : (role == 254) = true := by simp [hr]
  have u1 : ((uu : Int) != 0) = true := by simp; omega
  obtain ⟨ck, hck⟩ : ∃ ck, Lay.checkI c k r = ck := ⟨_, rfl⟩
  obtain ⟨gr, hgr⟩ : ∃ gr, growB ⟨uu, ev, role, c, k, r, cl, b, nw, g⟩ = gr := ⟨_, rfl⟩
  obtain ⟨R, hRR⟩ : ∃ R, upB role x = R := ⟨_, rfl⟩
  obtain ⟨B, hBB⟩ : ∃ B, upB b r = B := ⟨_, rfl⟩
  rw [hck] at hk
  rw [hgr] at hg
  rw [hck] at HK; rw [hgr] at HG; rw [hRR] at U1; rw [hBB] at U2
  have c1 : (ck == 0) = true := by simp [hk]
  subst hg
  unfold supV at *
  unfold geoV at HK
  dsimp only at HST HG ⊢
  clear hck hgr hRR hBB hM hr hu r1 hk
  go_enter Try.func24, Try.ntmps24
  go_wp2_with fail
  refine (upTo_any x _).mono ?_
  rintro e w' ⟨rfl, rfl⟩
  go_wp2_with fail
  refine (upTo_any r _).mono ?_
  rintro e w1 ⟨rfl, hw1⟩
  have HS := HST.out
  rw [← hw1] at HS
  simp only [World.size_alloc]
  clear HST hw1
  obtain ⟨⟨m0, m1, m2, m3, m4, m5, m6, m7, m8, m9⟩, n1, n2, HB⟩ := HS
  simp only [Nat.zero_add] at m1 m2 m3 m4 m5 m6 m7 m8 m9
  dsimp only at m0 m1 m2 m3 m4 m5 m6 m7 m8 m9
  go_wp2_with fail
  refine (HK _).mono ?_
  rintro e w2 ⟨rfl, B2⟩
  have S2 : Hid _ := B2
  have lt1 : w.heap.size < w1.heap.size := World.block_lt_of_cell? w1 _ m0
  have lt2 : w.heap.size + 1 < w1.heap.size := World.block_lt_of_cell? w1 _ n1
  have lt3 : w.heap.size + 1 + 1 < w1.heap.size := World.block_lt_of_cell? w1 _ n2
  have p0 := (B2.cell (p := ⟨w.heap.size, 0, none⟩) lt1).trans m0
  have p1 := (B2.cell (p := ⟨w.heap.size, 1, none⟩) lt1).trans m1
  have p2 := (B2.cell (p := ⟨w.heap.size, 2, none⟩) lt1).trans m2
  have p3 := (B2.cell (p := ⟨w.heap.size, 3, none⟩) lt1).trans m3
  have p4 := (B2.cell (p := ⟨w.heap.size, 4, none⟩) lt1).trans m4
  have p5 := (B2.cell (p := ⟨w.heap.size, 5, none⟩) lt1).trans m5
  have p6 := (B2.cell (p := ⟨w.heap.size, 6, none⟩) lt1).trans m6
  have p7 := (B2.cell (p := ⟨w.heap.size, 7, none⟩) lt1).trans m7
  have p8 := (B2.cell (p := ⟨w.heap.size, 8, none⟩) lt1).trans m8
  have p9 := (B2.cell (p := ⟨w.heap.size, 9, none⟩) lt1).trans m9
  have q2 := (B2.cell (p := ⟨w.heap.size + 1 + 1, 0, none⟩) lt3).trans n2
  clear B2
  go_wp2_with fail
  refine (HG _).mono ?_
  rintro e w3 ⟨rfl, B3⟩
  have S3 : Hid _ := B3
  have lt4 : w.heap.size < w2.heap.size := World.block_lt_of_cell? w2 _ p0
  have lt5 : w.heap.size + 1 + 1 < w2.heap.size := World.block_lt_of_cell? w2 _ q2
  have s5 := (B3.cell (p := ⟨w.heap.size, 5, none⟩) lt4).trans p5
  have s7 := (B3.cell (p := ⟨w.heap.size, 7, none⟩) lt4).trans p7
  have s9 := (B3.cell (p := ⟨w.heap.size, 9, none⟩) lt4).trans p9
  have t2 := (B3.cell (p := ⟨w.heap.size + 1 + 1, 0, none⟩) lt5).trans q2
  clear B3
  go_wp2
  go_ret
  exact ⟨rfl, below2 (below2 HB S2.out) S3.out⟩
set_option maxRecDepth 100000 in
set_option maxHeartbeats 2000000 in
theorem may_a4 (uu ev : Nat) (role c k r : Int) (cl : Bool) (b nw g : Int) (M x : Int) (hM : max c nw = M) (hx : IntKind.i64.wrap (M - 1) = x) (hr : role = 254) (hu : uu ≠ 0) (hk : Lay.checkI c k r = 0) (hg : growB ⟨uu, ev, role, c, k, r, cl, b, nw, g⟩ = true) (hb : upB b r = false) (w : World) :
    Calls Try.prog 24 #[supV ⟨uu, ev, role, c, k, r, cl, b, nw, g⟩] w fun e w' => e = .returned (.bool false) ∧ Below w.heap.size w w' := by
  have hmax := max_run c nw M hM
  have HK := fun W => Check_any c k r W
  have HG := fun W => mayGrow_any uu ev role c k r cl b nw g W
  have HST : Hid _ := may_start w ⟨uu, ev, role, c, k, r, cl, b, nw, g⟩ x r
  have U1 := fun a W h => upTo1_any role x a W h
  have U2 := fun a W h => upTo1_any b r a W h
  have U3 := fun a W h => upTo1_any g r a W h
  have r1 : decide (role = 254) = true := decide_eq_true hr
  have r1' : (role == 254) = true := by simp [hr]
  have u1 : ((uu : Int) != 0) = true := by simp; omega
  obtain ⟨ck, hck⟩ : ∃ ck, Lay.checkI c k r = ck := ⟨_, rfl⟩
  obtain ⟨gr, hgr⟩ : ∃ gr, growB ⟨uu, ev, role, c, k, r, cl, b, nw, g⟩ = gr := ⟨_, rfl⟩
  obtain ⟨R, hRR⟩ : ∃ R, upB role x = R := ⟨_, rfl⟩
  obtain ⟨B, hBB⟩ : ∃ B, upB b r = B := ⟨_, rfl⟩
  rw [hck] at hk
  rw [hgr] at hg
  rw [hBB] at hb
  rw [hck] at HK; rw [hgr] at HG; rw [hRR] at U1; rw [hBB] at U2
  have c1 : (ck == 0) = true := by simp [hk]
  subst hg
  subst hb
  unfold supV at *
  unfold geoV at HK
  dsimp only at HST HG ⊢
  clear hck hgr hRR hBB hM hr hu r1 hk
  go_enter Try.func24, Try.ntmps24
  go_wp2_with fail
  refine (upTo_any x _).mono ?_
  rintro e w' ⟨rfl, rfl⟩
  go_wp2_with fail
  refine (upTo_any r _).mono ?_
  rintro e w1 ⟨rfl, hw1⟩
  have HS := HST.out
  rw [← hw1] at HS
  simp only [World.size_alloc]
  clear HST hw1
  obtain ⟨⟨m0, m1, m2, m3, m4, m5, m6, m7, m8, m9⟩, n1, n2, HB⟩ := HS
  simp only [Nat.zero_add] at m1 m2 m3 m4 m5 m6 m7 m8 m9
  dsimp only at m0 m1 m2 m3 m4 m5 m6 m7 m8 m9
  go_wp2_with fail
  refine (HK _).mono ?_
  rintro e w2 ⟨rfl, B2⟩
  have S2 : Hid _ := B2
  have lt1 : w.heap.size < w1.heap.size := World.block_lt_of_cell? w1 _ m0
  have lt2 : w.heap.size + 1 < w1.heap.size := World.block_lt_of_cell? w1 _ n1
  have lt3 : w.heap.size + 1 + 1 < w1.heap.size := World.block_lt_of_cell? w1 _ n2
  have p0 := (B2.cell (p := ⟨w.heap.size, 0, none⟩) lt1).trans m0
  have p1 := (B2.cell (p := ⟨w.heap.size, 1, none⟩) lt1).trans m1
  have p2 := (B2.cell (p := ⟨w.heap.size, 2, none⟩) lt1).trans m2
  have p3 := (B2.cell (p := ⟨w.heap.size, 3, none⟩) lt1).trans m3
  have p4 := (B2.cell (p := ⟨w.heap.size, 4, none⟩) lt1).trans m4
  have p5 := (B2.cell (p := ⟨w.heap.size, 5, none⟩) lt1).trans m5
  have p6 := (B2.cell (p := ⟨w.heap.size, 6, none⟩) lt1).trans m6
  have p7 := (B2.cell (p := ⟨w.heap.size, 7, none⟩) lt1).trans m7
  have p8 := (B2.cell (p := ⟨w.heap.size, 8, none⟩) lt1).trans m8
  have p9 := (B2.cell (p := ⟨w.heap.size, 9, none⟩) lt1).trans m9
  have q2 := (B2.cell (p := ⟨w.heap.size + 1 + 1, 0, none⟩) lt3).trans n2
  clear B2
  go_wp2_with fail
  refine (HG _).mono ?_
  rintro e w3 ⟨rfl, B3⟩
  have S3 : Hid _ := B3
  have lt4 : w.heap.size < w2.heap.size := World.block_lt_of_cell? w2 _ p0
  have lt5 : w.heap.size + 1 + 1 < w2.heap.size := World.block_lt_of_cell? w2 _ q2
  have s5 := (B3.cell (p := ⟨w.heap.size, 5, none⟩) lt4).trans p5
  have s7 := (B3.cell (p := ⟨w.heap.size, 7, none⟩) lt4).trans p7
  have s9 := (B3.cell (p := ⟨w.heap.size, 9, none⟩) lt4).trans p9
  have t2 := (B3.cell (p := ⟨w.heap.size + 1 + 1, 0, none⟩) lt5).trans q2
  clear B3
  go_wp2_with fail
  refine (U2 _ _ t2).mono ?_
  rintro e w' ⟨rfl, hw'⟩
  replace hw' := hw'.symm
  subst hw'
  go_wp2
  go_ret
  exact ⟨rfl, below2 (below2 HB S2.out) S3.out⟩
set_option maxRecDepth 100000 in
set_option maxHeartbeats 2000000 in
theorem may_a5 (uu ev : Nat) (role c k r : Int) (cl : Bool) (b nw g : Int) (M x : Int) (hM : max c nw = M) (hx : IntKind.i64.wrap (M - 1) = x) (hr : role = 254) (hu : uu ≠ 0) (hk : Lay.checkI c k r = 0) (hg : growB ⟨uu, ev, role, c, k, r, cl, b, nw, g⟩ = true) (hb : upB b r = true) (w : World) :
    Calls Try.prog 24 #[supV ⟨uu, ev, role, c, k, r, cl, b, nw, g⟩] w fun e w' => e = .returned (.bool (upB g r)) ∧ Below w.heap.size w w' := by
  have hmax := max_run c nw M hM
  have HK := fun W => Check_any c k r W
  have HG := fun W => mayGrow_any uu ev role c k r cl b nw g W
  have HST : Hid _ := may_start w ⟨uu, ev, role, c, k, r, cl, b, nw, g⟩ x r
  have U1 := fun a W h => upTo1_any role x a W h
  have U2 := fun a W h => upTo1_any b r a W h
  have U3 := fun a W h => upTo1_any g r a W h
  have r1 : decide (role = 254) = true := decide_eq_true hr
  have r1' : (role == 254) = true := by simp [hr]
  have u1 : ((uu : Int) != 0) = true := by simp; omega
  obtain ⟨ck, hck⟩ : ∃ ck, Lay.checkI c k r = ck := ⟨_, rfl⟩
  obtain ⟨gr, hgr⟩ : ∃ gr, growB ⟨uu, ev, role, c, k, r, cl, b, nw, g⟩ = gr := ⟨_, rfl⟩
  obtain ⟨R, hRR⟩ : ∃ R, upB role x = R := ⟨_, rfl⟩
  obtain ⟨B, hBB⟩ : ∃ B, upB b r = B := ⟨_, rfl⟩
  rw [hck] at hk
  rw [hgr] at hg
  rw [hBB] at hb
  rw [hck] at HK; rw [hgr] at HG; rw [hRR] at U1; rw [hBB] at U2
  have c1 : (ck == 0) = true := by simp [hk]
  subst hg
  subst hb
  unfold supV at *
  unfold geoV at HK
  dsimp only at HST HG ⊢
  clear hck hgr hRR hBB hM hr hu r1 hk
  go_enter Try.func24, Try.ntmps24
  go_wp2_with fail
  refine (upTo_any x _).mono ?_
  rintro e w' ⟨rfl, rfl⟩
  go_wp2_with fail
  refine (upTo_any r _).mono ?_
  rintro e w1 ⟨rfl, hw1⟩
  have HS := HST.out
  rw [← hw1] at HS
  simp only [World.size_alloc]
  clear HST hw1
  obtain ⟨⟨m0, m1, m2, m3, m4, m5, m6, m7, m8, m9⟩, n1, n2, HB⟩ := HS
  simp only [Nat.zero_add] at m1 m2 m3 m4 m5 m6 m7 m8 m9
  dsimp only at m0 m1 m2 m3 m4 m5 m6 m7 m8 m9
  go_wp2_with fail
  refine (HK _).mono ?_
  rintro e w2 ⟨rfl, B2⟩
  have S2 : Hid _ := B2
  have lt1 : w.heap.size < w1.heap.size := World.block_lt_of_cell? w1 _ m0
  have lt2 : w.heap.size + 1 < w1.heap.size := World.block_lt_of_cell? w1 _ n1
  have lt3 : w.heap.size + 1 + 1 < w1.heap.size := World.block_lt_of_cell? w1 _ n2
  have p0 := (B2.cell (p := ⟨w.heap.size, 0, none⟩) lt1).trans m0
  have p1 := (B2.cell (p := ⟨w.heap.size, 1, none⟩) lt1).trans m1
  have p2 := (B2.cell (p := ⟨w.heap.size, 2, none⟩) lt1).trans m2
  have p3 := (B2.cell (p := ⟨w.heap.size, 3, none⟩) lt1).trans m3
  have p4 := (B2.cell (p := ⟨w.heap.size, 4, none⟩) lt1).trans m4
  have p5 := (B2.cell (p := ⟨w.heap.size, 5, none⟩) lt1).trans m5
  have p6 := (B2.cell (p := ⟨w.heap.size, 6, none⟩) lt1).trans m6
  have p7 := (B2.cell (p := ⟨w.heap.size, 7, none⟩) lt1).trans m7
  have p8 := (B2.cell (p := ⟨w.heap.size, 8, none⟩) lt1).trans m8
  have p9 := (B2.cell (p := ⟨w.heap.size, 9, none⟩) lt1).trans m9
  have q2 := (B2.cell (p := ⟨w.heap.size + 1 + 1, 0, none⟩) lt3).trans n2
  clear B2
  go_wp2_with fail
  refine (HG _).mono ?_
  rintro e w3 ⟨rfl, B3⟩
  have S3 : Hid _ := B3
  have lt4 : w.heap.size < w2.heap.size := World.block_lt_of_cell? w2 _ p0
  have lt5 : w.heap.size + 1 + 1 < w2.heap.size := World.block_lt_of_cell? w2 _ q2
  have s5 := (B3.cell (p := ⟨w.heap.size, 5, none⟩) lt4).trans p5
  have s7 := (B3.cell (p := ⟨w.heap.size, 7, none⟩) lt4).trans p7
  have s9 := (B3.cell (p := ⟨w.heap.size, 9, none⟩) lt4).trans p9
  have t2 := (B3.cell (p := ⟨w.heap.size + 1 + 1, 0, none⟩) lt5).trans q2
  clear B3
  go_wp2_with fail
  refine (U2 _ _ t2).mono ?_
  rintro e w' ⟨rfl, hw'⟩
  replace hw' := hw'.symm
  subst hw'
  go_wp2_with fail
  refine (U3 _ _ t2).mono ?_
  rintro e w' ⟨rfl, hw'⟩
  replace hw' := hw'.symm
  subst hw'
  go_wp2
  go_ret
  exact ⟨rfl, below2 (below2 HB S2.out) S3.out⟩
set_option maxRecDepth 100000 in
set_option maxHeartbeats 2000000 in
theorem may_b0 (uu ev : Nat) (role c k r : Int) (cl : Bool) (b nw g : Int) (M x : Int) (hM : max c nw = M) (hx : IntKind.i64.wrap (M - 1) = x) (hr0 : role ≠ 254) (hr : role = 255) (hu : uu = 0) (w : World) :
    Calls Try.prog 24 #[supV ⟨uu, ev, role, c, k, r, cl, b, nw, g⟩] w fun e w' => e = .returned (.bool false) ∧ Below w.heap.size w w' := by
  have hmax := max_run c nw M hM
  have HK := fun W => Check_any c k r W
  have HG := fun W => mayGrow_any uu ev role c k r cl b nw g W
  have HST : Hid _ := may_start w ⟨uu, ev, role, c, k, r, cl, b, nw, g⟩ x r
  have U1 := fun a W h => upTo1_any role x a W h
  have U2 := fun a W h => upTo1_any b r a W h
  have U3 := fun a W h => upTo1_any g r a W h
  have r1' : (role == 254) = false := by simp [hr0]
  have r2' : (role == 255) = true := by simp [hr]
  have u1 : ((uu : Int) != 0) = false := by simp [hu]
  obtain ⟨ck, hck⟩ : ∃ ck, Lay.checkI c k r = ck := ⟨_, rfl⟩
  obtain ⟨gr, hgr⟩ : ∃ gr, growB ⟨uu, ev, role, c, k, r, cl, b, nw, g⟩ = gr := ⟨_, rfl⟩
  obtain ⟨R, hRR⟩ : ∃ R, upB role x = R := ⟨_, rfl⟩
  obtain ⟨B, hBB⟩ : ∃ B, upB b r = B := ⟨_, rfl⟩
  rw [hck] at HK; rw [hgr] at HG; rw [hRR] at U1; rw [hBB] at U2
  unfold supV at *
  unfold geoV at HK
  dsimp only at HST HG ⊢
  clear hck hgr hRR hBB hM hr hu hr0
  go_enter Try.func24, Try.ntmps24
  go_wp2_with fail
  refine (upTo_any x _).mono ?_
  rintro e w' ⟨rfl, rfl⟩
  go_wp2_with fail
  refine (upTo_any r _).mono ?_
  rintro e w1 ⟨rfl, hw1⟩
  have HS := HST.out
  rw [← hw1] at HS
  simp only [World.size_alloc]
  clear HST hw1
  obtain ⟨⟨m0, m1, m2, m3, m4, m5, m6, m7, m8, m9⟩, n1, n2, HB⟩ := HS
  simp only [Nat.zero_add] at m1 m2 m3 m4 m5 m6 m7 m8 m9
  dsimp only at m0 m1 m2 m3 m4 m5 m6 m7 m8 m9
  go_wp2
  go_ret
  exact ⟨rfl, HB⟩
set_option maxRecDepth 100000 in
set_option maxHeartbeats 2000000 in
theorem may_b1 (uu ev : Nat) (role c k r : Int) (cl : Bool) (b nw g : Int) (M x : Int) (hM : max c nw = M) (hx : IntKind.i64.wrap (M - 1) = x) (hr0 : role ≠ 254) (hr : role = 255) (hu : uu ≠ 0) (hk : Lay.checkI c k r ≠ 0) (w : World) :
    Calls Try.prog 24 #[supV ⟨uu, ev, role, c, k, r, cl, b, nw, g⟩] w fun e w' => e = .returned (.bool false) ∧ Below w.heap.size w w' := by
  have hmax := max_run c nw M hM
  have HK := fun W => Check_any c k r W
  have HG := fun W => mayGrow_any uu ev role c k r cl b nw g W
  have HST : Hid _ := may_start w ⟨uu, ev, role, c, k, r, cl, b, nw, g⟩ x r
  have U1 := fun a W h => upTo1_any role x a W h
  have U2 := fun a W h => upTo1_any b r a W h
  have U3 := fun a W h => upTo1_any g r a W h
  have r1' : (role == 254) = false := by simp [hr0]
  have r2' : (role == 255) = true := by simp [hr]
  have u1 : ((uu : Int) != 0) = true := by simp; omega
  obtain ⟨ck, hck⟩ : ∃ ck, Lay.checkI c k r = ck := ⟨_, rfl⟩
  obtain ⟨gr, hgr⟩ : ∃ gr, growB ⟨uu, ev, role, c, k, r, cl, b, nw, g⟩ = gr := ⟨_, rfl⟩
  obtain ⟨R, hRR⟩ : ∃ R, upB role x = R := ⟨_, rfl⟩
  obtain ⟨B, hBB⟩ : ∃ B, upB b r = B := ⟨_, rfl⟩
  rw [hck] at hk
  rw [hck] at HK; rw [hgr] at HG; rw [hRR] at U1; rw [hBB] at U2
  have c1 : (ck == 0) = false := by simp [hk]
  unfold supV at *
  unfold geoV at HK
  dsimp only at HST HG ⊢
  clear hck hgr hRR hBB hM hr hu hr0 hk
  go_enter Try.func24, Try.ntmps24
  go_wp2_with fail
  refine (upTo_any x _).mono ?_
  rintro e w' ⟨rfl, rfl⟩
  go_wp2_with fail
  refine (upTo_any r _).mono ?_
  rintro e w1 ⟨rfl, hw1⟩
  have HS := HST.out
  rw [← hw1] at HS
  simp only [World.size_alloc]
  clear HST hw1
  obtain ⟨⟨m0, m1, m2, m3, m4, m5, m6, m7, m8, m9⟩, n1, n2, HB⟩ := HS
  simp only [Nat.zero_add] at m1 m2 m3 m4 m5 m6 m7 m8 m9
  dsimp only at m0 m1 m2 m3 m4 m5 m6 m7 m8 m9
  go_wp2_with fail
  refine (HK _).mono ?_
  rintro e w2 ⟨rfl, B2⟩
  have S2 : Hid _ := B2
  have lt1 : w.heap.size < w1.heap.size := World.block_lt_of_cell? w1 _ m0
  have lt2 : w.heap.size + 1 < w1.heap.size := World.block_lt_of_cell? w1 _ n1
  have lt3 : w.heap.size + 1 + 1 < w1.heap.size := World.block_lt_of_cell? w1 _ n2
  have p0 := (B2.cell (p := ⟨w.heap.size, 0, none⟩) lt1).trans m0
  have p1 := (B2.cell (p := ⟨w.heap.size, 1, none⟩) lt1).trans m1
  have p2 := (B2.cell (p := ⟨w.heap.size, 2, none⟩) lt1).trans m2
  have p3 := (B2.cell (p := ⟨w.heap.size, 3, none⟩) lt1).trans m3
  have p4 := (B2.cell (p := ⟨w.heap.size, 4, none⟩) lt1).trans m4
  have p5 := (B2.cell (p := ⟨w.heap.size, 5, none⟩) lt1).trans m5
  have p6 := (B2.cell (p := ⟨w.heap.size, 6, none⟩) lt1).trans m6
  have p7 := (B2.cell (p := ⟨w.heap.size, 7, none⟩) lt1).trans m7
  have p8 := (B2.cell (p := ⟨w.heap.size, 8, none⟩) lt1).trans m8
  have p9 := (B2.cell (p := ⟨w.heap.size, 9, none⟩) lt1).trans m9
  have q2 := (B2.cell (p := ⟨w.heap.size + 1 + 1, 0, none⟩) lt3).trans n2
  clear B2
  go_wp2
  go_ret
  exact ⟨rfl, below2 HB S2.out⟩
set_option maxRecDepth 100000 in
set_option maxHeartbeats 2000000 in
theorem may_b2 (uu ev : Nat) (role c k r : Int) (cl : Bool) (b nw g : Int) (M x : Int) (hM : max c nw = M) (hx : IntKind.i64.wrap (M - 1) = x) (hr0 : role ≠ 254) (hr : role = 255) (hu : uu ≠ 0) (hk : Lay.checkI c k r = 0) (hg : growB ⟨uu, ev, role, c, k, r, cl, b, nw, g⟩ = false) (w : World) :
    Calls Try.prog 24 #[supV ⟨uu, ev, role, c, k, r, cl, b, nw, g⟩] w fun e w' => e = .returned (.bool false) ∧ Below w.heap.size w w' := by
  have hmax := max_run c nw M hM
  have HK := fun W => Check_any c k r W
  have HG := fun W => mayGrow_any uu ev role c k r cl b nw g W
  have HST : Hid _ := may_start w ⟨uu, ev, role, c, k, r, cl, b, nw, g⟩ x r
  have U1 := fun a W h => upTo1_any role x a W h
  have U2 := fun a W h => upTo1_any b r a W h
  have U3 := fun a W h => upTo1_any g r a W h
  have r1' : (role == 254) = false := by simp [hr0]
  have r2' : (role == 255) = true := by simp [hr]
  have u1 : ((uu : Int) != 0) = true := by simp; omega
  obtain ⟨ck, hck⟩ : ∃ ck, Lay.checkI c k r = ck := ⟨_, rfl⟩
  obtain ⟨gr, hgr⟩ : ∃ gr, growB ⟨uu, ev, role, c, k, r, cl, b, nw, g⟩ = gr := ⟨_, rfl⟩
  obtain ⟨R, hRR⟩ : ∃ R, upB role x = R := ⟨_, rfl⟩
  obtain ⟨B, hBB⟩ : ∃ B, upB b r = B := ⟨_, rfl⟩
  rw [hck] at hk
  rw [hgr] at hg
  rw [hck] at HK; rw [hgr] at HG; rw [hRR] at U1; rw [hBB] at U2
  have c1 : (ck == 0) = true := by simp [hk]
  subst hg
  unfold supV at *
  unfold geoV at HK
  dsimp only at HST HG ⊢
  clear hck hgr hRR hBB hM hr hu hr0 hk
  go_enter Try.func24, Try.ntmps24
  go_wp2_with fail
  refine (upTo_any x _).mono ?_
  rintro e w' ⟨rfl, rfl⟩
  go_wp2_with fail
  refine (upTo_any r _).mono ?_
  rintro e w1 ⟨rfl, hw1⟩
  have HS := HST.out
  rw [← hw1] at HS
  simp only [World.size_alloc]
  clear HST hw1
  obtain ⟨⟨m0, m1, m2, m3, m4, m5, m6, m7, m8, m9⟩, n1, n2, HB⟩ := HS
  simp only [Nat.zero_add] at m1 m2 m3 m4 m5 m6 m7 m8 m9
  dsimp only at m0 m1 m2 m3 m4 m5 m6 m7 m8 m9
  go_wp2_with fail
  refine (HK _).mono ?_
  rintro e w2 ⟨rfl, B2⟩
  have S2 : Hid _ := B2
  have lt1 : w.heap.size < w1.heap.size := World.block_lt_of_cell? w1 _ m0
  have lt2 : w.heap.size + 1 < w1.heap.size := World.block_lt_of_cell? w1 _ n1
  have lt3 : w.heap.size + 1 + 1 < w1.heap.size := World.block_lt_of_cell? w1 _ n2
  have p0 := (B2.cell (p := ⟨w.heap.size, 0, none⟩) lt1).trans m0
  have p1 := (B2.cell (p := ⟨w.heap.size, 1, none⟩) lt1).trans m1
  have p2 := (B2.cell (p := ⟨w.heap.size, 2, none⟩) lt1).trans m2
  have p3 := (B2.cell (p := ⟨w.heap.size, 3, none⟩) lt1).trans m3
  have p4 := (B2.cell (p := ⟨w.heap.size, 4, none⟩) lt1).trans m4
  have p5 := (B2.cell (p := ⟨w.heap.size, 5, none⟩) lt1).trans m5
  have p6 := (B2.cell (p := ⟨w.heap.size, 6, none⟩) lt1).trans m6
  have p7 := (B2.cell (p := ⟨w.heap.size, 7, none⟩) lt1).trans m7
  have p8 := (B2.cell (p := ⟨w.heap.size, 8, none⟩) lt1).trans m8
  have p9 := (B2.cell (p := ⟨w.heap.size, 9, none⟩) lt1).trans m9
  have q2 := (B2.cell (p := ⟨w.heap.size + 1 + 1, 0, none⟩) lt3).trans n2
  clear B2
  go_wp2_with fail
  refine (HG _).mono ?_
  rintro e w3 ⟨rfl, B3⟩
  have S3 : Hid _ := B3
  have lt4 : w.heap.size < w2.heap.size := World.block_lt_of_cell? w2 _ p0
  have lt5 : w.heap.size + 1 + 1 < w2.heap.size := World.block_lt_of_cell? w2 _ q2
  have s5 := (B3.cell (p := ⟨w.heap.size, 5, none⟩) lt4).trans p5
  have s7 := (B3.cell (p := ⟨w.heap.size, 7, none⟩) lt4).trans p7
  have s9 := (B3.cell (p := ⟨w.heap.size, 9, none⟩) lt4).trans p9
  have t2 := (B3.cell (p := ⟨w.heap.size + 1 + 1, 0, none⟩) lt5).trans q2
  clear B3
  go_wp2
  go_ret
  exact ⟨rfl, below2 (below2 HB S2.out) S3.out⟩
set_option maxRecDepth 100000 in
set_option maxHeartbeats 2000000 in
theorem may_b4 (uu ev : Nat) (role c k r : Int) (cl : Bool) (b nw g : Int) (M x : Int) (hM : max c nw = M) (hx : IntKind.i64.wrap (M - 1) = x) (hr0 : role ≠ 254) (hr : role = 255) (hu : uu ≠ 0) (hk : Lay.checkI c k r = 0) (hg : growB ⟨uu, ev, role, c, k, r, cl, b, nw, g⟩ = true) (hb : upB b r = false) (w : World) :
    Calls Try.prog 24 #[supV ⟨uu, ev, role, c, k, r, cl, b, nw, g⟩] w fun e w' => e = .returned (.bool false) ∧ Below w.heap.size w w' := by
  have hmax := max_run c nw M hM
  have HK := fun W => Check_any c k r W
  have HG := fun W => mayGrow_any uu ev role c k r cl b nw g W
  have HST : Hid _ := may_start w ⟨uu, ev, role, c, k, r, cl, b, nw, g⟩ x r
  have U1 := fun a W h => upTo1_any role x a W h
  have U2 := fun a W h => upTo1_any b r a W h
  have U3 := fun a W h => upTo1_any g r a W h
  have r1' : (role == 254) = false := by simp [hr0]
  have r2' : (role == 255) = true := by simp [hr]
  have u1 : ((uu : Int) != 0) = true := by simp; omega
  obtain ⟨ck, hck⟩ : ∃ ck, Lay.checkI c k r = ck := ⟨_, rfl⟩
  obtain ⟨gr, hgr⟩ : ∃ gr, growB ⟨uu, ev, role, c, k, r, cl, b, nw, g⟩ = gr := ⟨_, rfl⟩
  obtain ⟨R, hRR⟩ : ∃ R, upB role x = R := ⟨_, rfl⟩
  obtain ⟨B, hBB⟩ : ∃ B, upB b r = B := ⟨_, rfl⟩
  rw [hck] at hk
  rw [hgr] at hg
  rw [hBB] at hb
  rw [hck] at HK; rw [hgr] at HG; rw [hRR] at U1; rw [hBB] at U2
  have c1 : (ck == 0) = true := by simp [hk]
  subst hg
  subst hb
  unfold supV at *
  unfold geoV at HK
  dsimp only at HST HG ⊢
  clear hck hgr hRR hBB hM hr hu hr0 hk
  go_enter Try.func24, Try.ntmps24
  go_wp2_with fail
  refine (upTo_any x _).mono ?_
  rintro e w' ⟨rfl, rfl⟩
  go_wp2_with fail
  refine (upTo_any r _).mono ?_
  rintro e w1 ⟨rfl, hw1⟩
  have HS := HST.out
  rw [← hw1] at HS
  simp only [World.size_alloc]
  clear HST hw1
  obtain ⟨⟨m0, m1, m2, m3, m4, m5, m6, m7, m8, m9⟩, n1, n2, HB⟩ := HS
  simp only [Nat.zero_add] at m1 m2 m3 m4 m5 m6 m7 m8 m9
  dsimp only at m0 m1 m2 m3 m4 m5 m6 m7 m8 m9
  go_wp2_with fail
  refine (HK _).mono ?_
  rintro e w2 ⟨rfl, B2⟩
  have S2 : Hid _ := B2
  have lt1 : w.heap.size < w1.heap.size := World.block_lt_of_cell? w1 _ m0
  have lt2 : w.heap.size + 1 < w1.heap.size := World.block_lt_of_cell? w1 _ n1
  have lt3 : w.heap.size + 1 + 1 < w1.heap.size := World.block_lt_of_cell? w1 _ n2
  have p0 := (B2.cell (p := ⟨w.heap.size, 0, none⟩) lt1).trans m0
  have p1 := (B2.cell (p := ⟨w.heap.size, 1, none⟩) lt1).trans m1
  have p2 := (B2.cell (p := ⟨w.heap.size, 2, none⟩) lt1).trans m2
  have p3 := (B2.cell (p := ⟨w.heap.size, 3, none⟩) lt1).trans m3
  have p4 := (B2.cell (p := ⟨w.heap.size, 4, none⟩) lt1).trans m4
  have p5 := (B2.cell (p := ⟨w.heap.size, 5, none⟩) lt1).trans m5
  have p6 := (B2.cell (p := ⟨w.heap.size, 6, none⟩) lt1).trans m6
  have p7 := (B2.cell (p := ⟨w.heap.size, 7, none⟩) lt1).trans m7
  have p8 := (B2.cell (p := ⟨w.heap.size, 8, none⟩) lt1).trans m8
  have p9 := (B2.cell (p := ⟨w.heap.size, 9, none⟩) lt1).trans m9
  have q2 := (B2.cell (p := ⟨w.heap.size + 1 + 1, 0, none⟩) lt3).trans n2
  clear B2
  go_wp2_with fail
  refine (HG _).mono ?_
  rintro e w3 ⟨rfl, B3⟩
  have S3 : Hid _ := B3
  have lt4 : w.heap.size < w2.heap.size := World.block_lt_of_cell? w2 _ p0
  have lt5 : w.heap.size + 1 + 1 < w2.heap.size := World.block_lt_of_cell? w2 _ q2
  have s5 := (B3.cell (p := ⟨w.heap.size, 5, none⟩) lt4).trans p5
  have s7 := (B3.cell (p := ⟨w.heap.size, 7, none⟩) lt4).trans p7
  have s9 := (B3.cell (p := ⟨w.heap.size, 9, none⟩) lt4).trans p9
  have t2 := (B3.cell (p := ⟨w.heap.size + 1 + 1, 0, none⟩) lt5).trans q2
  clear B3
  go_wp2_with fail
  refine (U2 _ _ t2).mono ?_
  rintro e w' ⟨rfl, hw'⟩
  replace hw' := hw'.symm
  subst hw'
  go_wp2
  go_ret
  exact ⟨rfl, below2 (below2 HB S2.out) S3.out⟩
set_option maxRecDepth 100000 in
set_option maxHeartbeats 2000000 in
theorem may_b5 (uu ev : Nat) (role c k r : Int) (cl : Bool) (b nw g : Int) (M x : Int) (hM : max c nw = M) (hx : IntKind.i64.wrap (M - 1) = x) (hr0 : role ≠ 254) (hr : role = 255) (hu : uu ≠ 0) (hk : Lay.checkI c k r = 0) (hg : growB ⟨uu, ev, role, c, k, r, cl, b, nw, g⟩ = true) (hb : upB b r = true) (w : World) :
    Calls Try.prog 24 #[supV ⟨uu, ev, role, c, k, r, cl, b, nw, g⟩] w fun e w' => e = .returned (.bool (upB g r)) ∧ Below w.heap.size w w' := by
  have hmax := max_run c nw M hM
  have HK := fun W => Check_any c k r W
  have HG := fun W => mayGrow_any uu ev role c k r cl b nw g W
  have HST : Hid _ := may_start w ⟨uu, ev, role, c, k, r, cl, b, nw, g⟩ x r
  have U1 := fun a W h => upTo1_any role x a W h
  have U2 := fun a W h => upTo1_any b r a W h
  have U3 := fun a W h => upTo1_any g r a W h
  have r1' : (role == 254) = false := by simp [hr0]
  have r2' : (role == 255) = true := by simp [hr]
  have u1 : ((uu : Int) != 0) = true := by simp; omega
  obtain ⟨ck, hck⟩ : ∃ ck, Lay.checkI c k r = ck := ⟨_, rfl⟩
  obtain ⟨gr, hgr⟩ : ∃ gr, growB ⟨uu, ev, role, c, k, r, cl, b, nw, g⟩ = gr := ⟨_, rfl⟩
  obtain ⟨R, hRR⟩ : ∃ R, upB role x = R := ⟨_, rfl⟩
  obtain ⟨B, hBB⟩ : ∃ B, upB b r = B := ⟨_, rfl⟩
  rw [hck] at hk
  rw [hgr] at hg
  rw [hBB] at hb
  rw [hck] at HK; rw [hgr] at HG; rw [hRR] at U1; rw [hBB] at U2
  have c1 : (ck == 0) = true := by simp [hk]
  subst hg
  subst hb
  unfold supV at *
  unfold geoV at HK
  dsimp only at HST HG ⊢
  clear hck hgr hRR hBB hM hr hu hr0 hk
  go_enter Try.func24, Try.ntmps24
  go_wp2_with fail
  refine (upTo_any x _).mono ?_
  rintro e w' ⟨rfl, rfl⟩
  go_wp2_with fail
  refine (upTo_any r _).mono ?_
  rintro e w1 ⟨rfl, hw1⟩
  have HS := HST.out
  rw [← hw1] at HS
  simp only [World.size_alloc]
  clear HST hw1
  obtain ⟨⟨m0, m1, m2, m3, m4, m5, m6, m7, m8, m9⟩, n1, n2, HB⟩ := HS
  simp only [Nat.zero_add] at m1 m2 m3 m4 m5 m6 m7 m8 m9
  dsimp only at m0 m1 m2 m3 m4 m5 m6 m7 m8 m9
  go_wp2_with fail
  refine (HK _).mono ?_
  rintro e w2 ⟨rfl, B2⟩
  have S2 : Hid _ := B2
  have lt1 : w.heap.size < w1.heap.size := World.block_lt_of_cell? w1 _ m0
  have lt2 : w.heap.size + 1 < w1.heap.size := World.block_lt_of_cell? w1 _ n1
  have lt3 : w.heap.size + 1 + 1 < w1.heap.size := World.block_lt_of_cell? w1 _ n2
  have p0 := (B2.cell (p := ⟨w.heap.size, 0, none⟩) lt1).trans m0
  have p1 := (B2.cell (p := ⟨w.heap.size, 1, none⟩) lt1).trans m1
  have p2 := (B2.cell (p := ⟨w.heap.size, 2, none⟩) lt1).trans m2
  have p3 := (B2.cell (p := ⟨w.heap.size, 3, none⟩) lt1).trans m3
  have p4 := (B2.cell (p := ⟨w.heap.size, 4, none⟩) lt1).trans m4
  have p5 := (B2.cell (p := ⟨w.heap.size, 5, none⟩) lt1).trans m5
  have p6 := (B2.cell (p := ⟨w.heap.size, 6, none⟩) lt1).trans m6
  have p7 := (B2.cell (p := ⟨w.heap.size, 7, none⟩) lt1).trans m7
  have p8 := (B2.cell (p := ⟨w.heap.size, 8, none⟩) lt1).trans m8
  have p9 := (B2.cell (p := ⟨w.heap.size, 9, none⟩) lt1).trans m9
  have q2 := (B2.cell (p := ⟨w.heap.size + 1 + 1, 0, none⟩) lt3).trans n2
  clear B2
  go_wp2_with fail
  refine (HG _).mono ?_
  rintro e w3 ⟨rfl, B3⟩
  have S3 : Hid _ := B3
  have lt4 : w.heap.size < w2.heap.size := World.block_lt_of_cell? w2 _ p0
  have lt5 : w.heap.size + 1 + 1 < w2.heap.size := World.block_lt_of_cell? w2 _ q2
  have s5 := (B3.cell (p := ⟨w.heap.size, 5, none⟩) lt4).trans p5
  have s7 := (B3.cell (p := ⟨w.heap.size, 7, none⟩) lt4).trans p7
  have s9 := (B3.cell (p := ⟨w.heap.size, 9, none⟩) lt4).trans p9
  have t2 := (B3.cell (p := ⟨w.heap.size + 1 + 1, 0, none⟩) lt5).trans q2
  clear B3
  go_wp2_with fail
  refine (U2 _ _ t2).mono ?_
  rintro e w' ⟨rfl, hw'⟩
  replace hw' := hw'.symm
  subst hw'
  go_wp2_with fail
  refine (U3 _ _ t2).mono ?_
  rintro e w' ⟨rfl, hw'⟩
  replace hw' := hw'.symm
  subst hw'
  go_wp2
  go_ret
  exact ⟨rfl, below2 (below2 HB S2.out) S3.out⟩
set_option maxRecDepth 100000 in
set_option maxHeartbeats 2000000 in
theorem may_c0 (uu ev : Nat) (role c k r : Int) (cl : Bool) (b nw g : Int) (M x : Int) (hM : max c nw = M) (hx : IntKind.i64.wrap (M - 1) = x) (hr0 : role ≠ 254) (hr : role ≠ 255) (hu : uu = 0) (w : World) :
    Calls Try.prog 24 #[supV ⟨uu, ev, role, c, k, r, cl, b, nw, g⟩] w fun e w' => e = .returned (.bool false) ∧ Below w.heap.size w w' := by
  have hmax := max_run c nw M hM
  have HK := fun W => Check_any c k r W
  have HG := fun W => mayGrow_any uu ev role c k r cl b nw g W
  have HST : Hid _ := may_start w ⟨uu, ev, role, c, k, r, cl, b, nw, g⟩ x r
  have U1 := fun a W h => upTo1_any role x a W h
  have U2 := fun a W h => upTo1_any b r a W h
  have U3 := fun a W h => upTo1_any g r a W h
  have r1' : (role == 254) = false := by simp [hr0]
  have r2' : (role == 255) = false := by simp [hr]
  have u1 : ((uu : Int) != 0) = false := by simp [hu]
  obtain ⟨ck, hck⟩ : ∃ ck, Lay.checkI c k r = ck := ⟨_, rfl⟩
  obtain ⟨gr, hgr⟩ : ∃ gr, growB ⟨uu, ev, role, c, k, r, cl, b, nw, g⟩ = gr := ⟨_, rfl⟩
  obtain ⟨R, hRR⟩ : ∃ R, upB role x = R := ⟨_, rfl⟩
  obtain ⟨B, hBB⟩ : ∃ B, upB b r = B := ⟨_, rfl⟩
  rw [hck] at HK; rw [hgr] at HG; rw [hRR] at U1; rw [hBB] at U2
  unfold supV at *
  unfold geoV at HK
  dsimp only at HST HG ⊢
  clear hck hgr hRR hBB hM hr hu hr0
  go_enter Try.func24, Try.ntmps24
  go_wp2_with fail
  refine (upTo_any x _).mono ?_
  rintro e w' ⟨rfl, rfl⟩
  go_wp2_with fail
  refine (upTo_any r _).mono ?_
  rintro e w1 ⟨rfl, hw1⟩
  have HS := HST.out
  rw [← hw1] at HS
  simp only [World.size_alloc]
  clear HST hw1
  obtain ⟨⟨m0, m1, m2, m3, m4, m5, m6, m7, m8, m9⟩, n1, n2, HB⟩ := HS
  simp only [Nat.zero_add] at m1 m2 m3 m4 m5 m6 m7 m8 m9
  dsimp only at m0 m1 m2 m3 m4 m5 m6 m7 m8 m9
  go_wp2_with fail
  refine (U1 _ _ n1).mono ?_
  rintro e w' ⟨rfl, hw'⟩
  replace hw' := hw'.symm
  subst hw'
  go_wp2
  go_ret
  exact ⟨rfl, HB⟩
set_option maxRecDepth 100000 in
set_option maxHeartbeats 2000000 in
theorem may_c1 (uu ev : Nat) (role c k r : Int) (cl : Bool) (b nw g : Int) (M x : Int) (hM : max c nw = M) (hx : IntKind.i64.wrap (M - 1) = x) (hr0 : role ≠ 254) (hr : role ≠ 255) (hu : uu ≠ 0) (hk : Lay.checkI c k r ≠ 0) (w : World) :
    Calls Try.prog 24 #[supV ⟨uu, ev, role, c, k, r, cl, b, nw, g⟩] w fun e w' => e = .returned (.bool false) ∧ Below w.heap.size w w' := by
  have hmax := max_run c nw M hM
  have HK := fun W => Check_any c k r W
  have HG := fun W => mayGrow_any uu ev role c k r cl b nw g W
  have HST : Hid _ := may_start w ⟨uu, ev, role, c, k, r, cl, b, nw, g⟩ x r
  have U1 := fun a W h => upTo1_any role x a W h
  have U2 := fun a W h => upTo1_any b r a W h
  have U3 := fun a W h => upTo1_any g r a W h
  have r1' : (role == 254) = false := by simp [hr0]
  have r2' : (role == 255) = false := by simp [hr]
  have u1 : ((uu : Int) != 0) = true := by simp; omega
  obtain ⟨ck, hck⟩ : ∃ ck, Lay.checkI c k r = ck := ⟨_, rfl⟩
  obtain ⟨gr, hgr⟩ : ∃ gr, growB ⟨uu, ev, role, c, k, r, cl, b, nw, g⟩ = gr := ⟨_, rfl⟩
  obtain ⟨R, hRR⟩ : ∃ R, upB role x = R := ⟨_, rfl⟩
  obtain ⟨B, hBB⟩ : ∃ B, upB b r = B := ⟨_, rfl⟩
  rw [hck] at hk
  rw [hck] at HK; rw [hgr] at HG; rw [hRR] at U1; rw [hBB] at U2
  have c1 : (ck == 0) = false := by simp [hk]
  unfold supV at *
  unfold geoV at HK
  dsimp only at HST HG ⊢
  clear hck hgr hRR hBB hM hr hu hr0 hk
  go_enter Try.func24, Try.ntmps24
  go_wp2_with fail
  refine (upTo_any x _).mono ?_
  rintro e w' ⟨rfl, rfl⟩
  go_wp2_with fail
  refine (upTo_any r _).mono ?_
  rintro e w1 ⟨rfl, hw1⟩
  have HS := HST.out
  rw [← hw1] at HS
  simp only [World.size_alloc]
  clear HST hw1
  obtain ⟨⟨m0, m1, m2, m3, m4, m5, m6, m7, m8, m9⟩, n1, n2, HB⟩ := HS
  simp only [Nat.zero_add] at m1 m2 m3 m4 m5 m6 m7 m8 m9
  dsimp only at m0 m1 m2 m3 m4 m5 m6 m7 m8 m9
  go_wp2_with fail
  refine (U1 _ _ n1).mono ?_
  rintro e w' ⟨rfl, hw'⟩
  replace hw' := hw'.symm
  subst hw'
  go_wp2_with fail
  refine (HK _).mono ?_
  rintro e w2 ⟨rfl, B2⟩
  have S2 : Hid _ := B2
  have lt1 : w.heap.size < w1.heap.size := World.block_lt_of_cell? w1 _ m0
  have lt2 : w.heap.size + 1 < w1.heap.size := World.block_lt_of_cell? w1 _ n1
  have lt3 : w.heap.size + 1 + 1 < w1.heap.size := World.block_lt_of_cell? w1 _ n2
  have p0 := (B2.cell (p := ⟨w.heap.size, 0, none⟩) lt1).trans m0
  have p1 := (B2.cell (p := ⟨w.heap.size, 1, none⟩) lt1).trans m1
  have p2 := (B2.cell (p := ⟨w.heap.size, 2, none⟩) lt1).trans m2
  have p3 := (B2.cell (p := ⟨w.heap.size, 3, none⟩) lt1).trans m3
  have p4 := (B2.cell (p := ⟨w.heap.size, 4, none⟩) lt1).trans m4
  have p5 := (B2.cell (p := ⟨w.heap.size, 5, none⟩) lt1).trans m5
  have p6 := (B2.cell (p := ⟨w.heap.size, 6, none⟩) lt1).trans m6
  have p7 := (B2.cell (p := ⟨w.heap.size, 7, none⟩) lt1).trans m7
  have p8 := (B2.cell (p := ⟨w.heap.size, 8, none⟩) lt1).trans m8
  have p9 := (B2.cell (p := ⟨w.heap.size, 9, none⟩) lt1).trans m9
  have q2 := (B2.cell (p := ⟨w.heap.size + 1 + 1, 0, none⟩) lt3).trans n2
  clear B2
  go_wp2
  go_ret
  exact ⟨rfl, below2 HB S2.out⟩
set_option maxRecDepth 100000 in
set_option maxHeartbeats 2000000 in
theorem may_c2 (uu ev : Nat) (role c k r : Int) (cl : Bool) (b nw g : Int) (M x : Int) (hM : max c nw = M) (hx : IntKind.i64.wrap (M - 1) = x) (hr0 : role ≠ 254) (hr : role ≠ 255) (hu : uu ≠ 0) (hk : Lay.checkI c k r = 0) (hg : growB ⟨uu, ev, role, c, k, r, cl, b, nw, g⟩ = false) (w : World) :
    Calls Try.prog 24 #[supV ⟨uu, ev, role, c, k, r, cl, b, nw, g⟩] w fun e w' => e = .returned (.bool false) ∧ Below w.heap.size w w' := by
  have hmax := max_run c nw M hM
  have HK := fun W => Check_any c k r W
  have HG := fun W => mayGrow_any uu ev role c k r cl b nw g W
  have HST : Hid _ := may_start w ⟨uu, ev, role, c, k, r, cl, b, nw, g⟩ x r
  have U1 := fun a W h => upTo1_any role x a W h
  have U2 := fun a W h => upTo1_any b r a W h
  have U3 := fun a W h => upTo1_any g r a W h
  have r1' : (role == 254) = false := by simp [hr0]
  have r2' : (role == 255) = false := by simp [hr]
  have u1 : ((uu : Int) != 0) = true := by simp; omega
  obtain ⟨ck, hck⟩ : ∃ ck, Lay.checkI c k r = ck := ⟨_, rfl⟩
  obtain ⟨gr, hgr⟩ : ∃ gr, growB ⟨uu, ev, role, c, k, r, cl, b, nw, g⟩ = gr := ⟨_, rfl⟩
  obtain ⟨R, hRR⟩ : ∃ R, upB role x = R := ⟨_, rfl⟩
  obtain ⟨B, hBB⟩ : ∃ B, upB b r = B := ⟨_, rfl⟩
  rw [hck] at hk
  rw [hgr] at hg
  rw [hck] at HK; rw [hgr] at HG; rw [hRR] at U1; rw [hBB] at U2
  have c1 : (ck == 0) = true := by simp [hk]
  subst hg
  unfold supV at *
  unfold geoV at HK
  dsimp only at HST HG ⊢
  clear hck hgr hRR hBB hM hr hu hr0 hk
  go_enter Try.func24, Try.ntmps24
  go_wp2_with fail
  refine (upTo_any x _).mono ?_
  rintro e w' ⟨rfl, rfl⟩
  go_wp2_with fail
  refine (upTo_any r _).mono ?_
  rintro e w1 ⟨rfl, hw1⟩
  have HS := HST.out
  rw [← hw1] at HS
  simp only [World.size_alloc]
  clear HST hw1
  obtain ⟨⟨m0, m1, m2, m3, m4, m5, m6, m7, m8, m9⟩, n1, n2, HB⟩ := HS
  simp only [Nat.zero_add] at m1 m2 m3 m4 m5 m6 m7 m8 m9
  dsimp only at m0 m1 m2 m3 m4 m5 m6 m7 m8 m9
  go_wp2_with fail
  refine (U1 _ _ n1).mono ?_
  rintro e w' ⟨rfl, hw'⟩
  replace hw' := hw'.symm
  subst hw'
  go_wp2_with fail
  refine (HK _).mono ?_
  rintro e w2 ⟨rfl, B2⟩
  have S2 : Hid _ := B2
  have lt1 : w.heap.size < w1.heap.size := World.block_lt_of_cell? w1 _ m0
  have lt2 : w.heap.size + 1 < w1.heap.size := World.block_lt_of_cell? w1 _ n1
  have lt3 : w.heap.size + 1 + 1 < w1.heap.size := World.block_lt_of_cell? w1 _ n2
  have p0 := (B2.cell (p := ⟨w.heap.size, 0, none⟩) lt1).trans m0
  have p1 := (B2.cell (p := ⟨w.heap.size, 1, none⟩) lt1).trans m1
  have p2 := (B2.cell (p := ⟨w.heap.size, 2, none⟩) lt1).trans m2
  have p3 := (B2.cell (p := ⟨w.heap.size, 3, none⟩) lt1).trans m3
  have p4 := (B2.cell (p := ⟨w.heap.size, 4, none⟩) lt1).trans m4
  have p5 := (B2.cell (p := ⟨w.heap.size, 5, none⟩) lt1).trans m5
  have p6 := (B2.cell (p := ⟨w.heap.size, 6, none⟩) lt1).trans m6
  have p7 := (B2.cell (p := ⟨w.heap.size, 7, none⟩) lt1).trans m7
  have p8 := (B2.cell (p := ⟨w.heap.size, 8, none⟩) lt1).trans m8
  have p9 := (B2.cell (p := ⟨w.heap.size, 9, none⟩) lt1).trans m9
  have q2 := (B2.cell (p := ⟨w.heap.size + 1 + 1, 0, none⟩) lt3).trans n2
  clear B2
  go_wp2_with fail
  refine (HG _).mono ?_
  rintro e w3 ⟨rfl, B3⟩
  have S3 : Hid _ := B3
  have lt4 : w.heap.size < w2.heap.size := World.block_lt_of_cell? w2 _ p0
  have lt5 : w.heap.size + 1 + 1 < w2.heap.size := World.block_lt_of_cell? w2 _ q2
  have s5 := (B3.cell (p := ⟨w.heap.size, 5, none⟩) lt4).trans p5
  have s7 := (B3.cell (p := ⟨w.heap.size, 7, none⟩) lt4).trans p7
  have s9 := (B3.cell (p := ⟨w.heap.size, 9, none⟩) lt4).trans p9
  have t2 := (B3.cell (p := ⟨w.heap.size + 1 + 1, 0, none⟩) lt5).trans q2
  clear B3
  go_wp2
  go_ret
  exact ⟨rfl, below2 (below2 HB S2.out) S3.out⟩
set_option maxRecDepth 100000 in
set_option maxHeartbeats 2000000 in
theorem may_c3 (uu ev : Nat) (role c k r : Int) (cl : Bool) (b nw g : Int) (M x : Int) (hM : max c nw = M) (hx : IntKind.i64.wrap (M - 1) = x) (hr0 : role ≠ 254) (hr : role ≠ 255) (hu : uu ≠ 0) (hk : Lay.checkI c k r = 0) (hg : growB ⟨uu, ev, role, c, k, r, cl, b, nw, g⟩ = true) (hR : upB role x = false) (w : World) :
    Calls Try.prog 24 #[supV ⟨uu, ev, role, c, k, r, cl, b, nw, g⟩] w fun e w' => e = .returned (.bool false) ∧ Below w.heap.size w w' := by
  have hmax := max_run c nw M hM
  have HK := fun W => Check_any c k r W
  have HG := fun W => mayGrow_any uu ev role c k r cl b nw g W
  have HST : Hid _ := may_start w ⟨uu, ev, role, c, k, r, cl, b, nw, g⟩ x r
  have U1 := fun a W h => upTo1_any role x a W h
  have U2 := fun a W h => upTo1_any b r a W h
  have U3 := fun a W h => upTo1_any g r a W h
  have r1' : (role == 254) = false := by simp [hr0]
  have r2' : (role == 255) = false := by simp [hr]
  have u1 : ((uu : Int) != 0) = true := by simp; omega
  obtain ⟨ck, hck⟩ : ∃ ck, Lay.checkI c k r = ck := ⟨_, rfl⟩
  obtain ⟨gr, hgr⟩ : ∃ gr, growB ⟨uu, ev, role, c, k, r, cl, b, nw, g⟩ = gr := ⟨_, rfl⟩
  obtain ⟨R, hRR⟩ : ∃ R, upB role x = R := ⟨_, rfl⟩
  obtain ⟨B, hBB⟩ : ∃ B, upB b r = B := ⟨_, rfl⟩
  rw [hck] at hk
  rw [hgr] at hg
  rw [hRR] at hR
  rw [hck] at HK; rw [hgr] at HG; rw [hRR] at U1; rw [hBB] at U2
  have c1 : (ck == 0) = true := by simp [hk]
  subst hg
  subst hR
  unfold supV at *
  unfold geoV at HK
  dsimp only at HST HG ⊢
  clear hck hgr hRR hBB hM hr hu hr0 hk
  go_enter Try.func24, Try.ntmps24
  go_wp2_with fail
  refine (upTo_any x _).mono ?_
  rintro e w' ⟨rfl, rfl⟩
  go_wp2_with fail
  refine (upTo_any r _).mono ?_
  rintro e w1 ⟨rfl, hw1⟩
  have HS := HST.out
  rw [← hw1] at HS
  simp only [World.size_alloc]
  clear HST hw1
  obtain ⟨⟨m0, m1, m2, m3, m4, m5, m6, m7, m8, m9⟩, n1, n2, HB⟩ := HS
  simp only [Nat.zero_add] at m1 m2 m3 m4 m5 m6 m7 m8 m9
  dsimp only at m0 m1 m2 m3 m4 m5 m6 m7 m8 m9
  go_wp2_with fail
  refine (U1 _ _ n1).mono ?_
  rintro e w' ⟨rfl, hw'⟩
  replace hw' := hw'.symm
  subst hw'
  go_wp2_with fail
  refine (HK _).mono ?_
  rintro e w2 ⟨rfl, B2⟩
  have S2 : Hid _ := B2
  have lt1 : w.heap.size < w1.heap.size := World.block_lt_of_cell? w1 _ m0
  have lt2 : w.heap.size + 1 < w1.heap.size := World.block_lt_of_cell? w1 _ n1
  have lt3 : w.heap.size + 1 + 1 < w1.heap.size := World.block_lt_of_cell? w1 _ n2
  have p0 := (B2.cell (p := ⟨w.heap.size, 0, none⟩) lt1).trans m0
  have p1 := (B2.cell (p := ⟨w.heap.size, 1, none⟩) lt1).trans m1
  have p2 := (B2.cell (p := ⟨w.heap.size, 2, none⟩) lt1).trans m2
  have p3 := (B2.cell (p := ⟨w.heap.size, 3, none⟩) lt1).trans m3
  have p4 := (B2.cell (p := ⟨w.heap.size, 4, none⟩) lt1).trans m4
  have p5 := (B2.cell (p := ⟨w.heap.size, 5, none⟩) lt1).trans m5
  have p6 := (B2.cell (p := ⟨w.heap.size, 6, none⟩) lt1).trans m6
  have p7 := (B2.cell (p := ⟨w.heap.size, 7, none⟩) lt1).trans m7
  have p8 := (B2.cell (p := ⟨w.heap.size, 8, none⟩) lt1).trans m8
  have p9 := (B2.cell (p := ⟨w.heap.size, 9, none⟩) lt1).trans m9
  have q2 := (B2.cell (p := ⟨w.heap.size + 1 + 1, 0, none⟩) lt3).trans n2
  clear B2
  go_wp2_with fail
  refine (HG _).mono ?_
  rintro e w3 ⟨rfl, B3⟩
  have S3 : Hid _ := B3
  have lt4 : w.heap.size < w2.heap.size := World.block_lt_of_cell? w2 _ p0
  have lt5 : w.heap.size + 1 + 1 < w2.heap.size := World.block_lt_of_cell? w2 _ q2
  have s5 := (B3.cell (p := ⟨w.heap.size, 5, none⟩) lt4).trans p5
  have s7 := (B3.cell (p := ⟨w.heap.size, 7, none⟩) lt4).trans p7
  have s9 := (B3.cell (p := ⟨w.heap.size, 9, none⟩) lt4).trans p9
  have t2 := (B3.cell (p := ⟨w.heap.size + 1 + 1, 0, none⟩) lt5).trans q2
  clear B3
  go_wp2
  go_ret
  exact ⟨rfl, below2 (below2 HB S2.out) S3.out⟩
set_option maxRecDepth 100000 in
set_option maxHeartbeats 2000000 in
theorem may_c4 (uu ev : Nat) (role c k r : Int) (cl : Bool) (b nw g : Int) (M x : Int) (hM : max c nw = M) (hx : IntKind.i64.wrap (M - 1) = x) (hr0 : role ≠ 254) (hr : role ≠ 255) (hu : uu ≠ 0) (hk : Lay.checkI c k r = 0) (hg : growB ⟨uu, ev, role, c, k, r, cl, b, nw, g⟩ = true) (hR : upB role x = true) (hb : upB b r = false) (w : World) :
    Calls Try.prog 24 #[supV ⟨uu, ev, role, c, k, r, cl, b, nw, g⟩] w fun e w' => e = .returned (.bool false) ∧ Below w.heap.size w w' := by
  have hmax := max_run c nw M hM
  have HK := fun W => Check_any c k r W
  have HG := fun W => mayGrow_any uu ev role c k r cl b nw g W
  have HST : Hid _ := may_start w ⟨uu, ev, role, c, k, r, cl, b, nw, g⟩ x r
  have U1 := fun a W h => upTo1_any role x a W h
  have U2 := fun a W h => upTo1_any b r a W h
  have U3 := fun a W h => upTo1_any g r a W h
  have r1' : (role == 254) = false := by simp [hr0]
  have r2' : (role == 255) = false := by simp [hr]
  have u1 : ((uu : Int) != 0) = true := by simp; omega
  obtain ⟨ck, hck⟩ : ∃ ck, Lay.checkI c k r = ck := ⟨_, rfl⟩
  obtain ⟨gr, hgr⟩ : ∃ gr, growB ⟨uu, ev, role, c, k, r, cl, b, nw, g⟩ = gr := ⟨_, rfl⟩
  obtain ⟨R, hRR⟩ : ∃ R, upB role x = R := ⟨_, rfl⟩
  obtain ⟨B, hBB⟩ : ∃ B, upB b r = B := ⟨_, rfl⟩
  rw [hck] at hk
  rw [hgr] at hg
  rw [hRR] at hR
  rw [hBB] at hb
  rw [hck] at HK; rw [hgr] at HG; rw [hRR] at U1; rw [hBB] at U2
  have c1 : (ck == 0) = true := by simp [hk]
  subst hg
  subst hR
  subst hb
  unfold supV at *
  unfold geoV at HK
  dsimp only at HST HG ⊢
  clear hck hgr hRR hBB hM hr hu hr0 hk
  go_enter Try.func24, Try.ntmps24
  go_wp2_with fail
  refine (upTo_any x _).mono ?_
  rintro e w' ⟨rfl, rfl⟩
  go_wp2_with fail
  refine (upTo_any r _).mono ?_
  rintro e w1 ⟨rfl, hw1⟩
  have HS := HST.out
  rw [← hw1] at HS
  simp only [World.size_alloc]
  clear HST hw1
  obtain ⟨⟨m0, m1, m2, m3, m4, m5, m6, m7, m8, m9⟩, n1, n2, HB⟩ := HS
  simp only [Nat.zero_add] at m1 m2 m3 m4 m5 m6 m7 m8 m9
  dsimp only at m0 m1 m2 m3 m4 m5 m6 m7 m8 m9
  go_wp2_with fail
  refine (U1 _ _ n1).mono ?_
  rintro e w' ⟨rfl, hw'⟩
  replace hw' := hw'.symm
  subst hw'
  go_wp2_with fail
  refine (HK _).mono ?_
  rintro e w2 ⟨rfl, B2⟩
  have S2 : Hid _ := B2
  have lt1 : w.heap.size < w1.heap.size := World.block_lt_of_cell? w1 _ m0
  have lt2 : w.heap.size + 1 < w1.heap.size := World.block_lt_of_cell? w1 _ n1
  have lt3 : w.heap.size + 1 + 1 < w1.heap.size := World.block_lt_of_cell? w1 _ n2
  have p0 := (B2.cell (p := ⟨w.heap.size, 0, none⟩) lt1).trans m0
  have p1 := (B2.cell (p := ⟨w.heap.size, 1, none⟩) lt1).trans m1
  have p2 := (B2.cell (p := ⟨w.heap.size, 2, none⟩) lt1).trans m2
  have p3 := (B2.cell (p := ⟨w.heap.size, 3, none⟩) lt1).trans m3
  have p4 := (B2.cell (p := ⟨w.heap.size, 4, none⟩) lt1).trans m4
  have p5 := (B2.cell (p := ⟨w.heap.size, 5, none⟩) lt1).trans m5
  have p6 := (B2.cell (p := ⟨w.heap.size, 6, none⟩) lt1).trans m6
  have p7 := (B2.cell (p := ⟨w.heap.size, 7, none⟩) lt1).trans m7
  have p8 := (B2.cell (p := ⟨w.heap.size, 8, none⟩) lt1).trans m8
  have p9 := (B2.cell (p := ⟨w.heap.size, 9, none⟩) lt1).trans m9
  have q2 := (B2.cell (p := ⟨w.heap.size + 1 + 1, 0, none⟩) lt3).trans n2
  clear B2
  go_wp2_with fail
  refine (HG _).mono ?_
  rintro e w3 ⟨rfl, B3⟩
  have S3 : Hid _ := B3
  have lt4 : w.heap.size < w2.heap.size := World.block_lt_of_cell? w2 _ p0
  have lt5 : w.heap.size + 1 + 1 < w2.heap.size := World.block_lt_of_cell? w2 _ q2
  have s5 := (B3.cell (p := ⟨w.heap.size, 5, none⟩) lt4).trans p5
  have s7 := (B3.cell (p := ⟨w.heap.size, 7, none⟩) lt4).trans p7
  have s9 := (B3.cell (p := ⟨w.heap.size, 9, none⟩) lt4).trans p9
  have t2 := (B3.cell (p := ⟨w.heap.size + 1 + 1, 0, none⟩) lt5).trans q2
  clear B3
  go_wp2_with fail
  refine (U2 _ _ t2).mono ?_
  rintro e w' ⟨rfl, hw'⟩
  replace hw' := hw'.symm
  subst hw'
  go_wp2
  go_ret
  exact ⟨rfl, below2 (below2 HB S2.out) S3.out⟩
set_option maxRecDepth 100000 in
set_option maxHeartbeats 2000000 in
theorem may_c5 (uu ev : Nat) (role c k r : Int) (cl : Bool) (b nw g : Int) (M x : Int) (hM : max c nw = M) (hx : IntKind.i64.wrap (M - 1) = x) (hr0 : role ≠ 254) (hr : role ≠ 255) (hu : uu ≠ 0) (hk : Lay.checkI c k r = 0) (hg : growB ⟨uu, ev, role, c, k, r, cl, b, nw, g⟩ = true) (hR : upB role x = true) (hb : upB b r = true) (w : World) :
    Calls Try.prog 24 #[supV ⟨uu, ev, role, c, k, r, cl, b, nw, g⟩] w fun e w' => e = .returned (.bool (upB g r)) ∧ Below w.heap.size w w' := by
  have hmax := max_run c nw M hM
  have HK := fun W => Check_any c k r W
  have HG := fun W => mayGrow_any uu ev role c k r cl b nw g W
  have HST : Hid _ := may_start w ⟨uu, ev, role, c, k, r, cl, b, nw, g⟩ x r
  have U1 := fun a W h => upTo1_any role x a W h
  have U2 := fun a W h => upTo1_any b r a W h
  have U3 := fun a W h => upTo1_any g r a W h
  have r1' : (role == 254) = false := by simp [hr0]
  have r2' : (role == 255) = false := by simp [hr]
  have u1 : ((uu : Int) != 0) = true := by simp; omega
  obtain ⟨ck, hck⟩ : ∃ ck, Lay.checkI c k r = ck := ⟨_, rfl⟩
  obtain ⟨gr, hgr⟩ : ∃ gr, growB ⟨uu, ev, role, c, k, r, cl, b, nw, g⟩ = gr := ⟨_, rfl⟩
  obtain ⟨R, hRR⟩ : ∃ R, upB role x = R := ⟨_, rfl⟩
  obtain ⟨B, hBB⟩ : ∃ B, upB b r = B := ⟨_, rfl⟩
  rw [hck] at hk
  rw [hgr] at hg
  rw [hRR] at hR
  rw [hBB] at hb
  rw [hck] at HK; rw [hgr] at HG; rw [hRR] at U1; rw [hBB] at U2
  have c1 : (ck == 0) = true := by simp [hk]
  subst hg
  subst hR
  subst hb
  unfold supV at *
  unfold geoV at HK
  dsimp only at HST HG ⊢
  clear hck hgr hRR hBB hM hr hu hr0 hk
  go_enter Try.func24, Try.ntmps24
  go_wp2_with fail
  refine (upTo_any x _).mono ?_
  rintro e w' ⟨rfl, rfl⟩
  go_wp2_with fail
  refine (upTo_any r _).mono ?_
  rintro e w1 ⟨rfl, hw1⟩
  have HS := HST.out
  rw [← hw1] at HS
  simp only [World.size_alloc]
  clear HST hw1
  obtain ⟨⟨m0, m1, m2, m3, m4, m5, m6, m7, m8, m9⟩, n1, n2, HB⟩ := HS
  simp only [Nat.zero_add] at m1 m2 m3 m4 m5 m6 m7 m8 m9
  dsimp only at m0 m1 m2 m3 m4 m5 m6 m7 m8 m9
  go_wp2_with fail
  refine (U1 _ _ n1).mono ?_
  rintro e w' ⟨rfl, hw'⟩
  replace hw' := hw'.symm
  subst hw'
  go_wp2_with fail
  refine (HK _).mono ?_
  rintro e w2 ⟨rfl, B2⟩
  have S2 : Hid _ := B2
  have lt1 : w.heap.size < w1.heap.size := World.block_lt_of_cell? w1 _ m0
  have lt2 : w.heap.size + 1 < w1.heap.size := World.block_lt_of_cell? w1 _ n1
  have lt3 : w.heap.size + 1 + 1 < w1.heap.size := World.block_lt_of_cell? w1 _ n2
  have p0 := (B2.cell (p := ⟨w.heap.size, 0, none⟩) lt1).trans m0
  have p1 := (B2.cell (p := ⟨w.heap.size, 1, none⟩) lt1).trans m1
  have p2 := (B2.cell (p := ⟨w.heap.size, 2, none⟩) lt1).trans m2
  have p3 := (B2.cell (p := ⟨w.heap.size, 3, none⟩) lt1).trans m3
  have p4 := (B2.cell (p := ⟨w.heap.size, 4, none⟩) lt1).trans m4
  have p5 := (B2.cell (p := ⟨w.heap.size, 5, none⟩) lt1).trans m5
  have p6 := (B2.cell (p := ⟨w.heap.size, 6, none⟩) lt1).trans m6
  have p7 := (B2.cell (p := ⟨w.heap.size, 7, none⟩) lt1).trans m7
  have p8 := (B2.cell (p := ⟨w.heap.size, 8, none⟩) lt1).trans m8
  have p9 := (B2.cell (p := ⟨w.heap.size, 9, none⟩) lt1).trans m9
  have q2 := (B2.cell (p := ⟨w.heap.size + 1 + 1, 0, none⟩) lt3).trans n2
  clear B2
  go_wp2_with fail
  refine (HG _).mono ?_
  rintro e w3 ⟨rfl, B3⟩
  have S3 : Hid _ := B3
  have lt4 : w.heap.size < w2.heap.size := World.block_lt_of_cell? w2 _ p0
  have lt5 : w.heap.size + 1 + 1 < w2.heap.size := World.block_lt_of_cell? w2 _ q2
  have s5 := (B3.cell (p := ⟨w.heap.size, 5, none⟩) lt4).trans p5
  have s7 := (B3.cell (p := ⟨w.heap.size, 7, none⟩) lt4).trans p7
  have s9 := (B3.cell (p := ⟨w.heap.size, 9, none⟩) lt4).trans p9
  have t2 := (B3.cell (p := ⟨w.heap.size + 1 + 1, 0, none⟩) lt5).trans q2
  clear B3
  go_wp2_with fail
  refine (U2 _ _ t2).mono ?_
  rintro e w' ⟨rfl, hw'⟩
  replace hw' := hw'.symm
  subst hw'
  go_wp2_with fail
  refine (U3 _ _ t2).mono ?_
  rintro e w' ⟨rfl, hw'⟩
  replace hw' := hw'.symm
  subst hw'
  go_wp2
  go_ret
  exact ⟨rfl, below2 (below2 HB S2.out) S3.out⟩

theorem May_any (s : Su) (hn : s.nw ≤ 9223372036854775807) (hc : s.c ≤ 9223372036854775807) (w : World) :
    Calls Try.prog 24 #[supV s] w fun e w' => e = .returned (.bool (Sup.mayB s)) ∧ Below w.heap.size w w' := by
  obtain ⟨uu, ev, role, c, k, r, cl, b, nw, g⟩ := s
  dsimp only at hn hc
  obtain ⟨M, hM⟩ : ∃ M, max c nw = M := ⟨_, rfl⟩
  obtain ⟨x, hx⟩ : ∃ x, IntKind.i64.wrap (M - 1) = x := ⟨_, rfl⟩
  have E : Sup.mayB ⟨uu, ev, role, c, k, r, cl, b, nw, g⟩ = mayW ⟨uu, ev, role, c, k, r, cl, b, nw, g⟩ x := by
    unfold Sup.mayB Sup.may mayW growB upB Lay.checkI
    by_cases ho : Lay.ok c k r
    · have hx' : x = M - 1 := by
        obtain ⟨⟨c1, c2⟩, _⟩ := ho
        rw [← hx, IntKind.wrap_i64]; omega
      subst hx'
      obtain ⟨⟨c1, c2⟩, ⟨k1, k2⟩, r1, r2⟩ := id ho
      rw [Bool.eq_iff_iff]
      simp [ho]
      omega
    · simp [ho]
  rw [E]
  unfold mayW
  by_cases h1 : role = 254
  · by_cases hu : uu = 0
    · simpa [hu] using may_a0 uu ev role c k r cl b nw g M x hM hx h1 hu w
    by_cases hk : Lay.checkI c k r = 0
    case neg => simpa [hk] using may_a1 uu ev role c k r cl b nw g M x hM hx h1 hu hk w
    cases hg : growB ⟨uu, ev, role, c, k, r, cl, b, nw, g⟩
    case false => simpa using may_a2 uu ev role c k r cl b nw g M x hM hx h1 hu hk hg w
    cases hb : upB b r
    case false => simpa using may_a4 uu ev role c k r cl b nw g M x hM hx h1 hu hk hg hb w
    simpa [hu, hk, h1] using may_a5 uu ev role c k r cl b nw g M x hM hx h1 hu hk hg hb w
  · by_cases h2 : role = 255
    · by_cases hu : uu = 0
      · simpa [hu] using may_b0 uu ev role c k r cl b nw g M x hM hx h1 h2 hu w
      by_cases hk : Lay.checkI c k r = 0
      case neg => simpa [hk] using may_b1 uu ev role c k r cl b nw g M x hM hx h1 h2 hu hk w
      cases hg : growB ⟨uu, ev, role, c, k, r, cl, b, nw, g⟩
      case false => simpa using may_b2 uu ev role c k r cl b nw g M x hM hx h1 h2 hu hk hg w
      cases hb : upB b r
      case false => simpa using may_b4 uu ev role c k r cl b nw g M x hM hx h1 h2 hu hk hg hb w
      simpa [hu, hk, h1, h2] using may_b5 uu ev role c k r cl b nw g M x hM hx h1 h2 hu hk hg hb w
    · by_cases hu : uu = 0
      · simpa [hu] using may_c0 uu ev role c k r cl b nw g M x hM hx h1 h2 hu w
      by_cases hk : Lay.checkI c k r = 0
      case neg => simpa [hk] using may_c1 uu ev role c k r cl b nw g M x hM hx h1 h2 hu hk w
      cases hg : growB ⟨uu, ev, role, c, k, r, cl, b, nw, g⟩
      case false => simpa using may_c2 uu ev role c k r cl b nw g M x hM hx h1 h2 hu hk hg w
      cases hR : upB role x
      case false => simpa [h1, h2] using may_c3 uu ev role c k r cl b nw g M x hM hx h1 h2 hu hk hg hR w
      cases hb : upB b r
      case false => simpa using may_c4 uu ev role c k r cl b nw g M x hM hx h1 h2 hu hk hg hR hb w
      simpa [hu, hk, h1, h2] using may_c5 uu ev role c k r cl b nw g M x hM hx h1 h2 hu hk hg hR hb w
end Go.Proofs.Ytgkhnfchohcjeaa
