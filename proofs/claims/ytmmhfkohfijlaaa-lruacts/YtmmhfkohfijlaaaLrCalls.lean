/- The walks of a list's own functions: one is removed, Get, Pin, Unpin, Drop, Pinned. -/
import Derived.Test.YtmmhfkohfijlaaaLrTop
namespace Go.Proofs.Ytmmhfkohfijlaaa
open Go.RowKit Go.Maps Lr
attribute [local go_sem] Oper.semAt_some

set_option maxRecDepth 100000 in
set_option maxHeartbeats 2000000 in
theorem remove_any {w : World} {p e mb room : Nat} {ns : N} (h : LruIn w p e mb room ns) {i : Nat} (hi : i < ns.length) :
    Calls Try.prog 32 #[.pointer (some ⟨p, 0, none⟩), .pointer (some ⟨ns[i].1, 0, none⟩)] w fun r w' => r = .returned (.tuple #[]) ∧ LruIn w' p e mb room (ns.eraseIdx i) ∧ FreeAt w' ns[i] ∧ Only (Foot p e mb ns) w w' := by
  have hl := leave_at h.ring hi
  have hne := erased_not hi h.ring.nd
  have hmem : ns[i].1 ∈ e :: blk ns := List.mem_cons_of_mem _ (blk_at hi)
  obtain ⟨g, hm, hg2, hg3⟩ := h.map
  have hgk : g ns[i].2.1 = some ns[i].1 := hg2 _ (List.getElem_mem hi)
  have hkd : ∀ W, MapP W mb (ns.length - 1) (fun j => if j = ns[i].2.1 then none else g j) → KeyMap W mb (ns.eraseIdx i) := fun W hW => KeyMap.del hi h.nd hg2 hg3 hW
  have hok := h.key hi
  obtain ⟨x, hx⟩ : ∃ x, x = ns[i] := ⟨_, rfl⟩
  rw [← hx] at hl hne hmem hgk hkd hok ⊢
  clear hx
  obtain ⟨b, k, n⟩ := x
  dsimp only at hl hne hmem hgk hkd hok ⊢
  have HMX : Hid (Try.prog.follows .mixedOrders = true) := by show _ = _; kernel_rfl
  have H : Hid (LruIn w p e mb room ns) := h
  have HM : Hid (MapP w mb ns.length g) := hm
  have HG : Hid (g k = some b) := hgk
  have HKD : Hid (∀ W, MapP W mb (ns.length - 1) (fun j => if j = k then none else g j) → KeyMap W mb (ns.eraseIdx i)) := hkd
  have HOK : Hid (Ok k) := hok
  have HNE : Hid (b ∉ e :: blk (ns.eraseIdx i)) := hne
  have HME : Hid (b ∈ e :: blk ns) := hmem
  have HI : Hid (i < ns.length) := hi
  clear h hm hg2 hg3 hgk hkd hok hne hmem hi
  go_enter Try.func32, Try.ntmps32
  go_wp2_with fail
  refine hl.mono ?_
  rintro r w1 ⟨rfl, hr, hf, ho⟩
  clear hl
  have HR1 : Hid (RingAt w1 e (ns.eraseIdx i)) := hr
  have HF1 : Hid (FreeAt w1 (b, k, n)) := hf
  have HO1 : Hid (Only (fun j => j ∈ e :: blk ns) w w1) := ho
  have HS1 : Hid (w1.heap[p]? = some (.cells #[.int .i64 (room : Nat), .pointer (some ⟨e, 0, none⟩), .map (some mb)] 54 (0, 0))) := (ho.block p (H.out.lt (.inl rfl)) H.out.p_ring).trans H.out.self
  have HM1 : Hid (MapP w1 mb ns.length g) := HM.out.only ho H.out.mb_ring
  have s0 : w1.cell? ⟨p, 2, none⟩ = some (.map (some mb)) := by rw [cell_of_row w1 p 2 _ _ _ HS1.out]; rfl
  have s1 : w1.cell? ⟨b, 2, none⟩ = some (.int .i64 k) := hf.c2
  clear hr hf ho
  go_wp2_with fail
  refine wp_region_held (S := fun W => W.cell? ⟨p, 2, none⟩ = some (.map (some mb)) ∧ W.cell? ⟨b, 2, none⟩ = some (.int .i64 k)) HMX.out ?_
  have hS : (fun W : World => W.cell? ⟨p, 2, none⟩ = some (.map (some mb)) ∧ W.cell? ⟨b, 2, none⟩ = some (.int .i64 k)) w1.drew := ⟨s0, s1⟩
  change wpAnyH _ _ _ _ _ _ _ _ w1.drew
  refine held_quiet 0 (v := ?v0q1) rfl (by kernel_rfl) (fun _ _ _ h => h) (by assumption) rfl ?hy0q1 ?rest0q1
  case hy0q1 => (intro wS hSw; (try dsimp only at hSw); go_simp; try with_reducible rfl)
  try simp only [Act.put, List.setIfInBounds_toArray, List.set_cons_zero, List.set_cons_succ]
  refine held_quiet 1 (v := ?v1q2) rfl (by kernel_rfl) (fun _ _ _ h => h) (by assumption) rfl ?hy1q2 ?rest1q2
  case hy1q2 => (intro wS hSw; (try dsimp only at hSw); go_simp; try with_reducible rfl)
  try simp only [Act.put, List.setIfInBounds_toArray, List.set_cons_zero, List.set_cons_succ]
  refine held_quiet 2 (v := ?v2q3) rfl (by kernel_rfl) (fun _ _ _ h => h) (by assumption) rfl ?hy2q3 ?rest2q3
  case hy2q3 => (intro wS hSw; (try dsimp only at hSw); go_simp; try with_reducible rfl)
  try simp only [Act.put, List.setIfInBounds_toArray, List.set_cons_zero, List.set_cons_succ]
  refine held_quiet 3 (v := ?v3q4) rfl (by kernel_rfl) (fun _ _ _ h => h) (by assumption) rfl ?hy3q4 ?rest3q4
  case hy3q4 => (intro wS hSw; (try dsimp only at hSw); go_simp; try with_reducible rfl)
  try simp only [Act.put, List.setIfInBounds_toArray, List.set_cons_zero, List.set_cons_succ]
  refine held_quiet 4 (v := ?v4q5) rfl (by kernel_rfl) (fun _ _ _ h => h) (by assumption) rfl ?hy4q5 ?rest4q5
  case hy4q5 => (intro wS hSw; (try dsimp only at hSw); go_simp; try with_reducible rfl)
  try simp only [Act.put, List.setIfInBounds_toArray, List.set_cons_zero, List.set_cons_succ]
  refine held_quiet 5 (v := ?v5q6) rfl (by kernel_rfl) (fun _ _ _ h => h) (by assumption) rfl ?hy5q6 ?rest5q6
  case hy5q6 => (intro wS hSw; (try dsimp only at hSw); go_simp; try with_reducible rfl)
  try simp only [Act.put, List.setIfInBounds_toArray, List.set_cons_zero, List.set_cons_succ]
  refine held_quiet 6 (v := ?v6q7) rfl (by kernel_rfl) (fun _ _ _ h => h) (by assumption) rfl ?hy6q7 ?rest6q7
  case hy6q7 => (intro wS hSw; (try dsimp only at hSw); go_simp; try with_reducible rfl)
  try simp only [Act.put, List.setIfInBounds_toArray, List.set_cons_zero, List.set_cons_succ]
  refine held_quiet 7 (v := ?v7q8) rfl (by kernel_rfl) (fun _ _ _ h => h) (by assumption) rfl ?hy7q8 ?rest7q8
  case hy7q8 => (intro wS hSw; (try dsimp only at hSw); go_simp; try with_reducible rfl)
  try simp only [Act.put, List.setIfInBounds_toArray, List.set_cons_zero, List.set_cons_succ]
  refine held_quiet 8 (v := ?v8q9) rfl (by kernel_rfl) (fun _ _ _ h => h) (by assumption) rfl ?hy8q9 ?rest8q9
  case hy8q9 => (intro wS hSw; (try dsimp only at hSw); go_simp; try with_reducible rfl)
  try simp only [Act.put, List.setIfInBounds_toArray, List.set_cons_zero, List.set_cons_succ]
  refine held_one 9 rfl (by kernel_rfl) ?_
  refine wpList_delP (w := w1.drew) rfl _ _ rfl rfl (HM1.out.only (Only.drew (fun _ => False) w1) (fun h => h)) HOK.out HG.out rfl ?_
  intro w2 hm2 ho2
  have HO2 : Hid (Only (fun j => j = mb) w1 w2) := (Only.drew _ w1).then ho2
  have HM2 : Hid (KeyMap w2 mb (ns.eraseIdx i)) := HKD.out w2 hm2
  have nb : b ≠ mb := fun q => H.out.mb_ring (by rw [← q]; exact HME.out)
  have np : p ≠ mb := H.out.p_mb
  have hs2 : w2.heap[p]? = some (.cells #[.int .i64 (room : Nat), .pointer (some ⟨e, 0, none⟩), .map (some mb)] 54 (0, 0)) := (HO2.out.block p (Array.getElem?_eq_some_iff.1 HS1.out).1 np).trans HS1.out
  have hf2 : FreeAt w2 (b, k, n) := HF1.out.only HO2.out nb
  have t0 : w2.cell? ⟨p, 2, none⟩ = some (.map (some mb)) := by rw [cell_of_row w2 p 2 _ _ _ hs2]; rfl
  have t1 : w2.cell? ⟨b, 2, none⟩ = some (.int .i64 k) := hf2.c2
  refine ⟨⟨t0, t1⟩, ?_⟩
  refine held_done (by kernel_rfl) ?_
  have HS2 : Hid (w2.heap[p]? = some (.cells #[.int .i64 (room : Nat), .pointer (some ⟨e, 0, none⟩), .map (some mb)] 54 (0, 0))) := hs2
  have HF2 : Hid (FreeAt w2 (b, k, n)) := hf2
  clear hs2 hf2 hm2 ho2 s0 s1
  go_wp2
  go_end0
  have hsub : ∀ y ∈ ns.eraseIdx i, y ∈ ns := fun y hy => List.mem_of_mem_eraseIdx hy
  refine ⟨rfl, ⟨H.out.room1, H.out.room64, Nat.le_trans (List.length_eraseIdx_le ns i) H.out.full, ?_, fun y hy => H.out.okk y (hsub y hy), HS2.out, HR1.out.only HO2.out ?_, HM2.out⟩, HF2.out, (HO1.out.mono fun j hj => foot_of_ring hj).then (HO2.out.mono fun j hj => .inr (.inl hj))⟩
  · exact List.Nodup.sublist ((List.eraseIdx_sublist ns i).map _) H.out.nd
  · intro j hj e1
    have e2 : j = mb := e1
    subst e2
    refine H.out.mb_ring ?_
    rcases List.mem_cons.1 hj with hj | hj
    · rw [hj]; exact List.mem_cons_self ..
    · obtain ⟨y, hy, rfl⟩ := List.mem_map.1 hj
      exact List.mem_cons_of_mem _ (List.mem_map.2 ⟨y, hsub y hy, rfl⟩)

set_option maxRecDepth 100000 in
set_option maxHeartbeats 2000000 in
theorem Get_no {w : World} {p e mb room : Nat} {ns : N} (h : LruIn w p e mb room ns) {k : Int} (hk : Ok k) (hno : ∀ x ∈ ns, x.2.1 ≠ k) :
    Calls Try.prog 20 #[.pointer (some ⟨p, 0, none⟩), .int .i64 k] w fun r w' => r = .returned (.bool false) ∧ w' = w := by
  have c2 := h.c2
  have hl := h.look_no hk hno
  clear h hk hno
  go_enter Try.func20, Try.ntmps20
  go_wp2
  go_ret
  exact ⟨rfl, rfl⟩

set_option maxRecDepth 100000 in
set_option maxHeartbeats 2000000 in
theorem Get_yes {w : World} {p e mb room : Nat} {ns : N} (h : LruIn w p e mb room ns) {i : Nat} (hi : i < ns.length) :
    Calls Try.prog 20 #[.pointer (some ⟨p, 0, none⟩), .int .i64 ns[i].2.1] w fun r w' => r = .returned (.bool true) ∧ LruIn w' p e mb room (ns[i] :: ns.eraseIdx i) ∧ Only (Foot p e mb ns) w w' := by
  have c2 := h.c2
  have hlk := h.look_yes hi
  have hl := leave_at h.ring hi
  have hne := erased_not hi h.ring.nd
  have hmem : ns[i].1 ∈ e :: blk ns := List.mem_cons_of_mem _ (blk_at hi)
  have hp := front_perm hi
  obtain ⟨x, hx⟩ : ∃ x, x = ns[i] := ⟨_, rfl⟩
  rw [← hx] at hl hne hmem hlk hp ⊢
  clear hx
  obtain ⟨b, k, n⟩ := x
  dsimp only at hl hne hmem hlk ⊢
  have H : Hid (LruIn w p e mb room ns) := h
  have HNE : Hid (b ∉ e :: blk (ns.eraseIdx i)) := hne
  have HME : Hid (b ∈ e :: blk ns) := hmem
  have HP : Hid (((b, k, n) :: ns.eraseIdx i).Perm ns) := hp
  have HL : Hid (Calls Try.prog 33 #[.pointer (some ⟨b, 0, none⟩)] w fun r w' => r = .returned (.tuple #[]) ∧ RingAt w' e (ns.eraseIdx i) ∧ FreeAt w' (b, k, n) ∧ Only (fun k => k ∈ e :: blk ns) w w') := hl
  clear h hne hmem hi hp hl
  go_enter Try.func20, Try.ntmps20
  go_wp2_with fail
  refine HL.out.mono ?_
  rintro r w1 ⟨rfl, hr, hf, ho⟩
  have HR1 : Hid (RingAt w1 e (ns.eraseIdx i)) := hr
  have HF1 : Hid (FreeAt w1 (b, k, n)) := hf
  have HO1 : Hid (Only (fun j => j ∈ e :: blk ns) w w1) := ho
  have hs1 : w1.heap[p]? = w.heap[p]? := ho.block p (H.out.lt (.inl rfl)) H.out.p_ring
  have c1 : w1.cell? ⟨p, 1, none⟩ = some (.pointer (some ⟨e, 0, none⟩)) := by rw [cell_of_row w1 p 1 _ _ _ (hs1.trans H.out.self)]; rfl
  have HS1 : Hid (w1.heap[p]? = w.heap[p]?) := hs1
  have HM1 : Hid (KeyMap w1 mb ns) := H.out.map.only ho H.out.mb_ring
  clear hr hf ho hs1 hlk c2 HL
  go_wp2_with fail
  refine (follow_at (x := (b, k, n)) HR1.out HNE.out HF1.out).mono ?_
  rintro r w2 ⟨rfl, hr, ho⟩
  have hsub : ∀ j ∈ b :: e :: blk (ns.eraseIdx i), j ∈ e :: blk ns := fun j hj => by
    rcases List.mem_cons.1 hj with hj | hj
    · rw [hj]; exact HME.out
    · rcases List.mem_cons.1 hj with hj | hj
      · rw [hj]; exact List.mem_cons_self ..
      · obtain ⟨y, hy, rfl⟩ := List.mem_map.1 hj
        exact List.mem_cons_of_mem _ (List.mem_map.2 ⟨y, List.mem_of_mem_eraseIdx hy, rfl⟩)
  have HR2 : Hid (RingAt w2 e ((b, k, n) :: ns.eraseIdx i)) := hr
  have HO2 : Hid (Only (fun j => j ∈ e :: blk ns) w1 w2) := ho.mono hsub
  clear hr ho hsub c1
  go_wp2
  go_ret
  refine ⟨rfl, H.out.perm HP.out ?_ HR2.out (HM1.out.only HO2.out H.out.mb_ring), (HO1.out.then HO2.out).mono fun j hj => foot_of_ring hj⟩
  exact (HO2.out.block p (Array.getElem?_eq_some_iff.1 (HS1.out.trans H.out.self)).1 H.out.p_ring).trans HS1.out
end Go.Proofs.Ytmmhfkohfijlaaa
