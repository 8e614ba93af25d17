/- The walk of filled: a text of 64 bytes as an array. -/
import Derived.Test.YtgkhnfchohcjeaaDrvTwo
import Derived.Lib.LazyBuf
import Derived.Deep.WholeRow
namespace Go.Proofs.Ytgkhnfchohcjeaa
open Go.RowKit Go.Maps

theorem wpList_copy_string {P : Program} {ops : Array Oper} {rest : List Oper} {o : Oper} {a : Act} {w : World} {Q : Exit → Act → World → Prop} (hgd : o.guard = none) (d x : Operand) (dT sT : TypeId)
    (ho : o.op = .call { callee := .builtin .copy, args := #[d, x], argTypes := #[dT, sT] }) (elem : TypeId) (hu : P.underlying dT = some (.slice elem)) (hz : ∀ w, (Go.sizeOf elem).run P w = .ok 1 w)
    (b off dLen dCap : Nat) (hd : a.eval d = .slice (some ⟨b, off, none⟩) dLen dCap) (t : ByteArray) (hx : a.eval x = .string t) (hle : t.size ≤ dLen) (ht : w.there b off t.size)
    (h : wpList P ops Q rest (a.put o.dst (goInt t.size)) (w.setCells b off (byteVals t.data.toList))) : wpList P ops Q (o :: rest) a w := by
  refine wpList_plain hgd fun K hK => ?_
  have hr := run_copy_string (P := P) w dT sT o.type elem b off dLen dCap t hu hz hle (fun j hj => (ht j hj).1) (fun j hj => (ht j hj).2)
  unfold Oper.wp execOp
  simp only [ho, resolve, invoke, builtin, Sem.run_bind, Sem.run_pure, Result.andThen_ok, List.map_toArray, List.map_cons, List.map_nil, hd, hx, hr]
  exact hK _ _ h

theorem info_sector : (Try.prog.info? 71).map (·.size) = some 64 := by kernel_rfl
theorem there_new (w : World) (C : Array Value) (t : TypeId) (n : Nat) (h : n ≤ C.size) : (w.alloc (.cells C t)).there w.heap.size 0 n :=
  there_row (heap_alloc_last w (.cells C t)) (by omega)

theorem results_cell_mid {P : Program} {fn : Func} {p : Tmp} {ty : TypeId} (h : fn.results = #[.cell p ty]) (tmps : Array Value) (w : World) (g o : Nat) (cs : List Value) (d : TypeDesc)
    (hp : tmps.getD p undef = .pointer (some ⟨g, o, none⟩)) (hg : w.rangeAt g o cs) (hu : P.underlying ty = some d) (hd : d.isRow = true) (hi : (P.info? ty).map (·.size) = some cs.length) :
    (results fn tmps).run P w = .ok (.agg cs.toArray) w := by
  have hp' : tmps[p]?.getD undef = .pointer (some ⟨g, o, none⟩) := by simpa using hp
  simp [results, h, hp', asAddr, run_loadVar_mid w g o ty cs d hg hu hd hi]
theorem fill_world {w w2 : World} {A B : Array Value} {t u : TypeId} {vs : List Value} (e2 : ((w.alloc (.cells A t)).alloc (.cells B u)).setCells (w.heap.size + 1) 0 vs = w2) (hA : A.size = 64) (hB : B.size = 64) (hv : vs.length = 64) :
    w2.rangeAt (w.heap.size + 1) 0 vs ∧ w2.there w.heap.size 0 64 ∧ Below w.heap.size w w2 := by
  subst e2
  have e : (w.alloc (.cells A t)).heap.size = w.heap.size + 1 := by simp
  have t1 : (w.alloc (.cells A t)).there w.heap.size 0 64 := there_new w A t 64 (by omega)
  have t2 : ((w.alloc (.cells A t)).alloc (.cells B u)).there (w.heap.size + 1) 0 64 := by rw [← e]; exact there_new _ B u 64 (by omega)
  refine ⟨World.rangeAt_setCells_same _ _ _ _ (by rw [hv]; exact t2), World.there_setCells (World.there_alloc t1 _) _ _ _, ?_⟩
  obtain ⟨h1, h2, h3, h4, h5⟩ := setCells_os (w.heap.size + 1) vs 0 ((w.alloc (.cells A t)).alloc (.cells B u))
  exact (((Below.refl _ w).alloc (Nat.le_refl _) _).alloc (by simp) _).trans ⟨h1, h2, h3, by rw [h4]; exact Nat.le_refl _, fun k hk => h5 k (by omega)⟩

set_option maxRecDepth 100000 in
set_option maxHeartbeats 400000 in
theorem filled_any (s : ByteArray) (hs : s.size = 64) (w : World) :
    Calls Try.prog 29 #[.string s] w fun e w' => e = .returned (.agg (byteVals s.data.toList).toArray) ∧ Below w.heap.size w w' := by
  have hl : (byteVals s.data.toList).length = 64 := by rw [byteVals_length]; exact hs
  have hone := byteVals_one s.data.toList
  obtain ⟨vs, hvs⟩ : ∃ vs, vs = byteVals s.data.toList := ⟨_, rfl⟩
  rw [← hvs] at hl hone ⊢
  have Hvs : Hid (vs = byteVals s.data.toList) := hvs
  have Hs : Hid (s.size = 64) := hs
  have Hl : Hid (vs.length = 64) := hl
  clear hvs hs hl
  go_enter Try.func29, Try.ntmps29
  go_wp2_with fail
  have hth : ∀ (A B : Array Value), A.size = 64 → B.size = 64 → ((w.alloc (.cells A 71)).alloc (.cells B 71)).there (w.heap.size + 1) 0 s.size := fun A B hA hB => by
    rw [Hs.out]; exact (show (w.alloc (.cells A 71)).heap.size = w.heap.size + 1 by simp) ▸ there_new (w.alloc _) _ _ 64 (by omega)
  rw [run_copy_string (P := Try.prog) _ _ _ _ 5 (w.heap.size + 1) 0 64 64 s Try.underlying23 Try.sizeOf5 (by rw [Hs.out]; exact Nat.le_refl _) (fun j hj => (hth _ _ rfl rfl j hj).1) (fun j hj => (hth _ _ rfl rfl j hj).2)]
  change Oper.upon _ _ _ _ _ ((Result.ok _ (World.setCells _ _ _ (byteVals s.data.toList))).andThen _)
  rw [← Hvs.out]
  generalize e2 : World.setCells _ _ _ vs = w2
  obtain ⟨r1, r2, r3⟩ := fill_world e2 rfl rfl Hl.out
  clear e2 hth
  have R1 : Hid (w2.rangeAt (w.heap.size + 1) 0 vs) := r1
  have R2 : Hid (w2.there w.heap.size 0 64) := r2
  have R3 : Hid (Below w.heap.size w w2) := r3
  have Hone : Hid (∀ v ∈ vs, v.oneCell' = true) := hone
  clear r1 r2 r3 hone
  have e64 : vs.toArray.size = 64 := Hl.out
  have T : Hid (w2.there w.heap.size 0 vs.toArray.size) := by unfold Hid; rw [e64]; exact R2.out
  have I : Hid ((Try.prog.info? 71).map (·.size) = some vs.toArray.size) := by unfold Hid; rw [e64]; exact info_sector
  have E64 : Hid (vs.toArray.size = 64) := e64
  clear e64
  go_wp2_with (first
    | (refine wpList_load_mid rfl 71 _ rfl (w.heap.size + 1) 0 rfl vs _ R1.out Try.underlying71 rfl I.out ?_)
    | (refine wpList_store_mid rfl 71 _ _ rfl w.heap.size 0 vs.toArray rfl rfl T.out I.out (all_oneCell_toArray Hone.out) ?_))
  refine bodyPost_ret (results_cell_mid rfl _ _ w.heap.size 0 vs _ rfl (World.rangeAt_setCells_same _ _ _ _ T.out) Try.underlying71 rfl I.out) rfl ⟨rfl, ?_⟩
  exact R3.out.trans ((Only.setCells (One w.heap.size) w2 w.heap.size 0 _ rfl).below (fun k hk => by rw [hk]; exact Nat.le_refl _) R3.out.size)
end Go.Proofs.Ytgkhnfchohcjeaa
