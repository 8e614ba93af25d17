/- The walks of a map of regions: a new one; a write begins, and ends; is a row stale. -/
import Derived.Test.YtlhgafpidkcmcaaDoorIntDone
namespace Go.Proofs.YtlhgafpidkcmcaaDoor
open Go.RowKit
attribute [local go_sem] Oper.semAt_some

/-- the cells of a new map -/
def In.newC (n : Nat) : Array Value := (.int .i64 (n : Int) :: .int .u64 0 :: List.replicate 64 (.int .i64 0)).toArray
theorem InAt.new (w : World) (n : Nat) (t : TypeId) : InAt (w.alloc (.cells (In.newC n) t)) w.heap.size n 0 (fun _ => 0) := by
  refine ⟨?_, ?_, fun r hr => ?_, fun j => ?_⟩
  · rw [World.cell?_alloc_mark]; rfl
  · rw [World.cell?_alloc_mark]; rfl
  · rw [World.cell?_alloc_mark]
    unfold In.newC
    rw [List.getElem?_toArray, Nat.add_comm 2 r, List.getElem?_cons_succ, List.getElem?_cons_succ, List.getElem?_replicate, if_pos hr]
    rfl
  · rw [World.frozen?_alloc_mark]; simp

theorem In.ret_cell {P : Program} {fn : Func} {p : Tmp} {ty : TypeId} (h : fn.results = #[.cell p ty]) (tmps : Array Value) (w : World) (a : Addr) (v : Value) (hp : tmps.getD p undef = .pointer (some a)) (hl : (loadVar ty a).run P w = .ok v w) :
    (results fn tmps).run P w = .ok v w := by
  have hp' : tmps[p]?.getD undef = .pointer (some a) := by simpa using hp
  simp [results, h, hp', asAddr, hl]
theorem In.ret_cell_tmp {P : Program} {fn : Func} {p q : Tmp} {ty : TypeId} (h : fn.results = #[.cell p ty, .tmp q]) (tmps : Array Value) (w : World) (a : Addr) (v : Value) (hp : tmps.getD p undef = .pointer (some a)) (hl : (loadVar ty a).run P w = .ok v w) :
    (results fn tmps).run P w = .ok (.tuple #[v, tmps.getD q undef]) w := by
  have hp' : tmps[p]?.getD undef = .pointer (some a) := by simpa using hp
  simp [results, h, hp', asAddr, hl]

set_option maxRecDepth 100000 in
set_option maxHeartbeats 1000000 in
theorem New_yes (n : Nat) (hn : 1 ≤ n ∧ n ≤ 256) (w : World) :
    Calls Tryd.prog 5 #[.int .i64 (n : Int)] w fun e w' => e = .returned (.pointer (some ⟨w.heap.size, 0, none⟩)) ∧ InAt w' w.heap.size n 0 (fun _ => 0) ∧ Below w.heap.size w w' := by
  obtain ⟨Z, hZ⟩ : ∃ Z, Z = In.newC 0 := ⟨_, rfl⟩
  obtain ⟨C, hC⟩ : ∃ C, C = In.newC n := ⟨_, rfl⟩
  have hz : ∀ W, (zeroValue 39).run Tryd.prog W = .ok (.agg Z) W := fun W => by rw [hZ]; kernel_rfl
  have hne : ¬ (Z = #[]) := by rw [hZ]; intro e; cases e
  have hset : Z.setIfInBounds 0 (.int .i64 (n : Int)) = C := by rw [hZ, hC]; rfl
  have HC : Hid (C = In.newC n) := hC
  clear hZ hC
  go_enter Tryd.func5, Tryd.ntmps5
  go_wp2
  go_ret
  rw [HC.out]
  exact ⟨rfl, InAt.new w n 39, (Below.refl _ w).alloc (Nat.le_refl _) _⟩

theorem call_start (args : Array Value) (W : World) : (callFunc 13 args).run Tryd.prog W = .ok (.enter 13 args) W := In.run_enter Tryd.func13 (by kernel_rfl) (by kernel_rfl) args W
theorem call_stale (args : Array Value) (W : World) : (callFunc 15 args).run Tryd.prog W = .ok (.enter 15 args) W := In.run_enter Tryd.func15 (by kernel_rfl) (by kernel_rfl) args W
theorem call_done (args : Array Value) (W : World) : (callFunc 17 args).run Tryd.prog W = .ok (.enter 17 args) W := In.run_enter Tryd.func17 (by kernel_rfl) (by kernel_rfl) args W

/-- the world in which a row's region is done something with: the map's address in a box, the answer in another one -/
def In.boxed (w : World) (b : Nat) : World := (w.alloc (.cells #[.pointer (some ⟨b, 0, none⟩)] 24)).alloc (.cells #[.bool false] 4)
theorem In.boxed_m (w : World) (b : Nat) : (In.boxed w b).cell? ⟨w.heap.size, 0, none⟩ = some (.pointer (some ⟨b, 0, none⟩)) := by
  have h := World.cell?_alloc_mark w #[.pointer (some ⟨b, 0, none⟩)] 24 (0, 0) 0
  exact (((Below.refl _ _).alloc (Nat.le_refl _) _).cell (p := ⟨w.heap.size, 0, none⟩) (by simp)).trans h
theorem In.boxed_s (w : World) (b : Nat) : (In.boxed w b).cell? ⟨w.heap.size + 1, 0, none⟩ = some (.bool false) := by
  have h := World.cell?_alloc_mark (w.alloc (.cells #[.pointer (some ⟨b, 0, none⟩)] 24)) #[.bool false] 4 (0, 0) 0
  rw [show (w.alloc (.cells #[.pointer (some ⟨b, 0, none⟩)] 24)).heap.size = w.heap.size + 1 by simp] at h
  exact h
theorem In.boxed_f (w : World) (b : Nat) : (In.boxed w b).frozen? ⟨w.heap.size + 1, 0, none⟩ = false := by
  have h := World.frozen?_alloc_mark (w.alloc (.cells #[.pointer (some ⟨b, 0, none⟩)] 24)) #[.bool false] 4 0 0 0
  rw [show (w.alloc (.cells #[.pointer (some ⟨b, 0, none⟩)] 24)).heap.size = w.heap.size + 1 by simp] at h
  exact h
theorem In.boxed_only (w : World) (b : Nat) (F : Nat → Prop) : Only F w (In.boxed w b) := (Only.alloc F w _).then (Only.alloc F _ _)

set_option maxRecDepth 100000 in
set_option maxHeartbeats 1000000 in
theorem Start_any {w : World} {b n d : Nat} {u : Nat → Nat} (h : InAt w b n d u) (hd : d < 18446744073709551616) (hn : n ≤ 256) (row : Nat) (hr : row < n) (hu : u (row / 4) < 4611686018427387904) :
    Calls Tryd.prog 6 #[.pointer (some ⟨b, 0, none⟩), .int .i64 (row : Int)] w fun e w' => e = .returned (.tuple #[.bool (!d.testBit (row / 4)), .int .i64 0]) ∧ InAt w' b n (In.setB d (row / 4)) (In.upd u (row / 4) (u (row / 4) + 1)) ∧ Only (fun k => k = b) w w' := by
  have hlt := h.lt
  have h1 := h.only (In.boxed_only w b (fun _ => False)) (fun hf => hf)
  have c := in_yes h1 row hr hn 13 #[.pointer (some ⟨w.heap.size, 0, none⟩), .pointer (some ⟨w.heap.size + 1, 0, none⟩)]
    (fun k w' => k = 0 ∧ InAt w' b n (In.setB d (row / 4)) (In.upd u (row / 4) (u (row / 4) + 1)) ∧ w'.cell? ⟨w.heap.size + 1, 0, none⟩ = some (.bool (!d.testBit (row / 4))) ∧ Only (fun k => k = b ∨ k = w.heap.size + 1) (In.boxed w b) w')
    ((start1_any h1 hd (row / 4) (by omega) hu w.heap.size (w.heap.size + 1) false (In.boxed_m w b) (In.boxed_s w b) (In.boxed_f w b) (by omega) (by omega) (by omega)).mono (by rintro e w' ⟨rfl, g1, g2, g3⟩; exact ⟨0, rfl, rfl, g1, g2, g3⟩)) call_start
  obtain ⟨t, ht⟩ : ∃ t, t = (!d.testBit (row / 4)) := ⟨_, rfl⟩
  rw [← ht] at c ⊢
  clear h h1 ht
  go_enter Tryd.func6, Tryd.ntmps6
  go_wp2_with fail
  refine c.mono ?_
  rintro e w' ⟨k, rfl, rfl, g1, g2, g3⟩
  have G1 : Hid (InAt w' b n (In.setB d (row / 4)) (In.upd u (row / 4) (u (row / 4) + 1))) := g1
  have G3 : Hid (Only (fun k => k = b ∨ k = w.heap.size + 1) (In.boxed w b) w') := g3
  clear g1 g3 c
  go_wp2
  refine bodyPost_ret (In.ret_cell_tmp rfl _ _ ⟨w.heap.size + 1, 0, none⟩ (.bool t) rfl (by go_simp)) rfl ?_
  refine ⟨rfl, G1.out, (In.boxed_only w b _).trans (G3.out.mono fun k hk => ?_)⟩
  rcases hk with e | e
  · exact .inl e
  · exact .inr (by omega)

set_option maxRecDepth 100000 in
set_option maxHeartbeats 1000000 in
theorem Stale_any {w : World} {b n d : Nat} {u : Nat → Nat} (h : InAt w b n d u) (hd : d < 18446744073709551616) (hn : n ≤ 256) (row : Nat) (hr : row < n) :
    Calls Tryd.prog 7 #[.pointer (some ⟨b, 0, none⟩), .int .i64 (row : Int)] w fun e w' => e = .returned (.bool (d.testBit (row / 4))) ∧ Below w.heap.size w w' := by
  have hlt := h.lt
  have h1 := h.only (In.boxed_only w b (fun _ => False)) (fun hf => hf)
  have c := in_yes h1 row hr hn 15 #[.pointer (some ⟨w.heap.size, 0, none⟩), .pointer (some ⟨w.heap.size + 1, 0, none⟩)]
    (fun k w' => k = 0 ∧ w'.cell? ⟨w.heap.size + 1, 0, none⟩ = some (.bool (d.testBit (row / 4))) ∧ Only (fun k => k = w.heap.size + 1) (In.boxed w b) w')
    ((stale1_any h1 hd (row / 4) (by omega) w.heap.size (w.heap.size + 1) false (In.boxed_m w b) (In.boxed_s w b) (In.boxed_f w b) (by omega) (by omega)).mono (by rintro e w' ⟨rfl, g2, g3⟩; exact ⟨0, rfl, rfl, g2, g3⟩)) call_stale
  obtain ⟨t, ht⟩ : ∃ t, t = d.testBit (row / 4) := ⟨_, rfl⟩
  rw [← ht] at c ⊢
  clear h h1 ht
  go_enter Tryd.func7, Tryd.ntmps7
  go_wp2_with fail
  refine c.mono ?_
  rintro e w' ⟨k, rfl, rfl, g2, g3⟩
  have G3 : Hid (Only (fun k => k = w.heap.size + 1) (In.boxed w b) w') := g3
  clear g3 c
  go_wp2
  refine bodyPost_ret (In.ret_cell rfl _ _ ⟨w.heap.size + 1, 0, none⟩ (.bool t) rfl (by go_simp)) rfl ?_
  exact ⟨rfl, ((In.boxed_only w b _).trans (G3.out.mono fun k hk => .inr (by omega))).below (F := fun _ => False) (fun k hk => hk.elim) (Nat.le_refl _)⟩

set_option maxRecDepth 100000 in
set_option maxHeartbeats 1000000 in
theorem Done_yes {w : World} {b n d : Nat} {u : Nat → Nat} (h : InAt w b n d u) (hn : n ≤ 256) (row : Nat) (hr : row < n) (y : Nat) (hy : u (row / 4) = y + 1) (hu : y < 4611686018427387904) :
    Calls Tryd.prog 9 #[.pointer (some ⟨b, 0, none⟩), .int .i64 (row : Int)] w fun e w' => e = .returned (.int .i64 0) ∧ InAt w' b n d (In.upd u (row / 4) y) ∧ Only (fun k => k = b) w w' := by
  have hlt := h.lt
  have o1 := Only.alloc (fun _ => False) w (.cells #[.pointer (some ⟨b, 0, none⟩)] 24)
  have h1 := h.only o1 (fun hf => hf)
  have c := in_yes h1 row hr hn 17 #[.pointer (some ⟨w.heap.size, 0, none⟩)]
    (fun k w' => k = 0 ∧ InAt w' b n d (In.upd u (row / 4) y) ∧ Only (fun k => k = b) (w.alloc (.cells #[.pointer (some ⟨b, 0, none⟩)] 24)) w')
    ((done1_yes h1 (row / 4) (by omega) y hy hu w.heap.size (by rw [World.cell?_alloc_mark]; rfl) (by omega)).mono (by rintro e w' ⟨rfl, g1, g2⟩; exact ⟨0, rfl, rfl, g1, g2⟩)) call_done
  clear h h1 hy
  go_enter Tryd.func9, Tryd.ntmps9
  go_wp2_with fail
  refine c.mono ?_
  rintro e w' ⟨k, rfl, rfl, g1, g3⟩
  have G1 : Hid (InAt w' b n d (In.upd u (row / 4) y)) := g1
  have G3 : Hid (Only (fun k => k = b) (w.alloc (.cells #[.pointer (some ⟨b, 0, none⟩)] 24)) w') := g3
  clear g1 g3 c o1
  go_wp2
  go_ret
  exact ⟨rfl, G1.out, (Only.alloc _ w _).then G3.out⟩

set_option maxRecDepth 100000 in
set_option maxHeartbeats 1000000 in
theorem Done_none {w : World} {b n d : Nat} {u : Nat → Nat} (h : InAt w b n d u) (hn : n ≤ 256) (row : Nat) (hr : row < n) (hy : u (row / 4) = 0) :
    Calls Tryd.prog 9 #[.pointer (some ⟨b, 0, none⟩), .int .i64 (row : Int)] w fun e w' => e = .returned (.int .i64 3) ∧ Below w.heap.size w w' := by
  have o1 := Only.alloc (fun _ => False) w (.cells #[.pointer (some ⟨b, 0, none⟩)] 24)
  have h1 := h.only o1 (fun hf => hf)
  have c := in_yes h1 row hr hn 17 #[.pointer (some ⟨w.heap.size, 0, none⟩)]
    (fun k w' => k = 3 ∧ w' = w.alloc (.cells #[.pointer (some ⟨b, 0, none⟩)] 24))
    ((done1_none h1 (row / 4) (by omega) hy w.heap.size (by rw [World.cell?_alloc_mark]; rfl)).mono (by rintro e w' ⟨rfl, g1⟩; exact ⟨3, rfl, rfl, g1⟩)) call_done
  clear h h1 hy o1
  go_enter Tryd.func9, Tryd.ntmps9
  go_wp2_with fail
  refine c.mono ?_
  rintro e w' ⟨k, rfl, rfl, rfl⟩
  clear c
  go_wp2
  go_ret
  exact ⟨rfl, (Below.refl _ w).alloc (Nat.le_refl _) _⟩
end Go.Proofs.YtlhgafpidkcmcaaDoor
