/- The walks of Pin, Unpin, Drop and Pinned. -/
import Derived.Test.YtmmhfkohfijlaaaLrCalls
namespace Go.Proofs.Ytmmhfkohfijlaaa
open Go.RowKit Go.Maps Lr
attribute [local go_sem] Oper.semAt_some

namespace Lr
variable {w : World} {p e mb room : Nat} {ns : N}
/-- the one at i is pinned so often -/
def pinN (ns : N) (i : Nat) (n : Nat) : N := ns.set i ((ns.getD i (0, 0, 0)).1, (ns.getD i (0, 0, 0)).2.1, n)
theorem getD_at {α : Type} {l : List α} {i : Nat} (h : i < l.length) (d : α) : l.getD i d = l[i] := by rw [List.getD_eq_getElem?_getD, List.getElem?_eq_getElem h]; rfl
theorem pinN_eq {i : Nat} (hi : i < ns.length) (n : Nat) : pinN ns i n = ns.set i (ns[i].1, ns[i].2.1, n) := by rw [pinN, getD_at hi]
theorem pinN_map {α : Type} (f : Nat × Int × Nat → α) (hf : ∀ b k n m, f (b, k, n) = f (b, k, m)) {i : Nat} (hi : i < ns.length) (n : Nat) : (pinN ns i n).map f = ns.map f := by
  rw [pinN_eq hi]
  apply List.ext_getElem
  · simp
  · intro j h1 h2
    rw [List.getElem_map, List.getElem_map, List.getElem_set]
    by_cases e1 : i = j
    · subst e1
      rw [if_pos rfl]; exact hf _ _ _ _
    · rw [if_neg e1]
theorem pinN_mem {i : Nat} (hi : i < ns.length) {n : Nat} {x : Nat × Int × Nat} (hx : x ∈ pinN ns i n) : x = (ns[i].1, ns[i].2.1, n) ∨ ∃ j, ∃ h : j < ns.length, j ≠ i ∧ x = ns[j] := by
  rw [pinN_eq hi] at hx
  obtain ⟨j, hj, rfl⟩ := List.mem_iff_getElem.1 hx
  rw [List.getElem_set]
  by_cases e1 : i = j
  · exact .inl (if_pos e1)
  · exact .inr ⟨j, by simpa using hj, Ne.symm e1, if_neg e1⟩
theorem LruIn.pinned (h : LruIn w p e mb room ns) {i : Nat} (hi : i < ns.length) (n : Nat) : LruIn (w.setCell ⟨ns[i].1, 3, none⟩ (.int .i64 (n : Nat))) p e mb room (pinN ns i n) := by
  have hb : ns[i].1 ∈ e :: blk ns := List.mem_cons_of_mem _ (blk_at hi)
  have ho : Only (fun j => j = ns[i].1) w (w.setCell ⟨ns[i].1, 3, none⟩ (.int .i64 (n : Nat))) := Only.setCell _ _ _ _ rfl
  have hbl : blk (pinN ns i n) = blk ns := pinN_map _ (fun _ _ _ _ => rfl) hi n
  have hln : (pinN ns i n).length = ns.length := by simp [pinN]
  refine ⟨h.room1, h.room64, by rw [hln]; exact h.full, by rw [pinN_map _ (fun _ _ _ _ => rfl) hi n]; exact h.nd, fun x hx => ?_, (ho.block p (h.lt (.inl rfl)) (fun q => h.p_ring (by rw [q]; exact hb))).trans h.self, ?_, ?_⟩
  · rcases pinN_mem hi hx with rfl | ⟨j, hj, _, rfl⟩
    · exact h.key hi
    · exact h.key hj
  · obtain ⟨A, B, V, h1, h2, h3⟩ := h.ring
    refine ⟨A, B, _, by rw [hbl]; exact h1, by rw [hbl]; exact h2.setP hb n, fun x hx => ?_⟩
    rcases pinN_mem hi hx with rfl | ⟨j, hj, hji, rfl⟩
    · refine (upd_same _ _ _).trans ?_
      rw [h3 _ (List.getElem_mem hi)]
    · refine (upd_other _ _ fun q => hji ?_).trans (h3 _ (List.getElem_mem hj))
      exact nodup_at (List.nodup_cons.1 h1.nd).2 (by simpa using hj) (by simpa using hi) (by simpa using q)
  · refine (h.map.only ho (fun q => h.mb_ring (by rw [q]; exact hb))).perm hln (fun x hx => ?_) (fun y hy => ?_)
    · rcases pinN_mem hi hx with rfl | ⟨j, hj, _, rfl⟩
      · exact ⟨_, List.getElem_mem hi, rfl, rfl⟩
      · exact ⟨_, List.getElem_mem hj, rfl, rfl⟩
    · have hy2 : (y.1, y.2.1) ∈ ns.map fun x => (x.1, x.2.1) := List.mem_map.2 ⟨y, hy, rfl⟩
      rw [← pinN_map (fun x => (x.1, x.2.1)) (fun _ _ _ _ => rfl) hi n] at hy2
      obtain ⟨x, hx, he⟩ := List.mem_map.1 hy2
      exact ⟨x, hx, (congrArg Prod.snd he).symm⟩
end Lr

set_option maxRecDepth 100000 in
set_option maxHeartbeats 2000000 in
theorem Pinned_no {w : World} {p e mb room : Nat} {ns : N} (h : LruIn w p e mb room ns) {k : Int} (hk : Ok k) (hno : ∀ x ∈ ns, x.2.1 ≠ k) :
    Calls Try.prog 14 #[.pointer (some ⟨p, 0, none⟩), .int .i64 k] w fun r w' => r = .returned (.int .i64 0) ∧ w' = w := by
  have c2 := h.c2
  have hl := h.look_no hk hno
  clear h hk hno
  go_enter Try.func14, Try.ntmps14
  go_wp2
  go_ret
  exact ⟨rfl, rfl⟩
set_option maxRecDepth 100000 in
set_option maxHeartbeats 2000000 in
theorem Pinned_yes {w : World} {p e mb room : Nat} {ns : N} (h : LruIn w p e mb room ns) {i : Nat} (hi : i < ns.length) :
    Calls Try.prog 14 #[.pointer (some ⟨p, 0, none⟩), .int .i64 ns[i].2.1] w fun r w' => r = .returned (.int .i64 (ns[i].2.2 : Nat)) ∧ w' = w := by
  have c2 := h.c2
  have hlk := h.look_yes hi
  have c3 := (h.ring.free (List.getElem_mem hi)).c3
  obtain ⟨x, hx⟩ : ∃ x, x = ns[i] := ⟨_, rfl⟩
  rw [← hx] at hlk c3 ⊢
  clear hx h hi
  obtain ⟨b, k, n⟩ := x
  dsimp only at hlk c3 ⊢
  go_enter Try.func14, Try.ntmps14
  go_wp2
  go_ret
  exact ⟨rfl, rfl⟩
set_option maxRecDepth 100000 in
set_option maxHeartbeats 2000000 in
theorem Pin_no {w : World} {p e mb room : Nat} {ns : N} (h : LruIn w p e mb room ns) {k : Int} (hk : Ok k) (hno : ∀ x ∈ ns, x.2.1 ≠ k) :
    Calls Try.prog 17 #[.pointer (some ⟨p, 0, none⟩), .int .i64 k] w fun r w' => r = .returned (.int .i64 3) ∧ w' = w := by
  have c2 := h.c2
  have hl := h.look_no hk hno
  clear h hk hno
  go_enter Try.func17, Try.ntmps17
  go_wp2
  go_ret
  exact ⟨rfl, rfl⟩
set_option maxRecDepth 100000 in
set_option maxHeartbeats 2000000 in
theorem Pin_yes {w : World} {p e mb room : Nat} {ns : N} (h : LruIn w p e mb room ns) {i : Nat} (hi : i < ns.length) (hn : ns[i].2.2 < 1000000000) :
    Calls Try.prog 17 #[.pointer (some ⟨p, 0, none⟩), .int .i64 ns[i].2.1] w fun r w' => r = .returned (.int .i64 0) ∧ LruIn w' p e mb room (pinN ns i (ns[i].2.2 + 1)) ∧ Only (Foot p e mb ns) w w' := by
  have c2 := h.c2
  have hlk := h.look_yes hi
  have hf := h.ring.free (List.getElem_mem hi)
  have c3 := hf.c3
  have f3 := hf.f3
  have hnew := h.pinned hi (ns[i].2.2 + 1)
  have ho : Only (Foot p e mb ns) w (w.setCell ⟨ns[i].1, 3, none⟩ (.int .i64 ((ns[i].2.2 + 1 : Nat) : Int))) := Only.setCell _ _ _ _ (foot_of_ring (List.mem_cons_of_mem _ (blk_at hi)))
  obtain ⟨ms, hms⟩ : ∃ ms, ms = pinN ns i (ns[i].2.2 + 1) := ⟨_, rfl⟩
  rw [← hms] at hnew ⊢
  clear hms hf
  obtain ⟨x, hx⟩ : ∃ x, x = ns[i] := ⟨_, rfl⟩
  rw [← hx] at hlk c3 f3 hnew ho hn ⊢
  clear hx h hi
  obtain ⟨b, k, n⟩ := x
  dsimp only at hlk c3 f3 hnew ho hn ⊢
  have HN : Hid (LruIn (w.setCell ⟨b, 3, none⟩ (.int .i64 ((n + 1 : Nat) : Int))) p e mb room ms) := hnew
  have HO : Hid (Only (Foot p e mb ns) w (w.setCell ⟨b, 3, none⟩ (.int .i64 ((n + 1 : Nat) : Int)))) := ho
  have e1 : ((n + 1 : Nat) : Int) = (n : Int) + 1 := by omega
  rw [e1] at HN HO
  clear hnew ho e1
  go_enter Try.func17, Try.ntmps17
  go_wp2
  go_ret
  exact ⟨rfl, HN.out, HO.out⟩
set_option maxRecDepth 100000 in
set_option maxHeartbeats 2000000 in
theorem Unpin_no {w : World} {p e mb room : Nat} {ns : N} (h : LruIn w p e mb room ns) {k : Int} (hk : Ok k) (hno : ∀ x ∈ ns, x.2.1 ≠ k) :
    Calls Try.prog 19 #[.pointer (some ⟨p, 0, none⟩), .int .i64 k] w fun r w' => r = .returned (.int .i64 3) ∧ w' = w := by
  have c2 := h.c2
  have hl := h.look_no hk hno
  clear h hk hno
  go_enter Try.func19, Try.ntmps19
  go_wp2
  go_ret
  exact ⟨rfl, rfl⟩
set_option maxRecDepth 100000 in
set_option maxHeartbeats 2000000 in
theorem Unpin_free {w : World} {p e mb room : Nat} {ns : N} (h : LruIn w p e mb room ns) {i : Nat} (hi : i < ns.length) (hn : ns[i].2.2 = 0) :
    Calls Try.prog 19 #[.pointer (some ⟨p, 0, none⟩), .int .i64 ns[i].2.1] w fun r w' => r = .returned (.int .i64 5) ∧ w' = w := by
  have c2 := h.c2
  have hlk := h.look_yes hi
  have c3 := (h.ring.free (List.getElem_mem hi)).c3
  rw [hn] at c3
  obtain ⟨x, hx⟩ : ∃ x, x = ns[i] := ⟨_, rfl⟩
  rw [← hx] at hlk c3 ⊢
  clear hx hn h hi
  obtain ⟨b, k, n⟩ := x
  dsimp only at hlk c3 ⊢
  go_enter Try.func19, Try.ntmps19
  go_wp2
  go_ret
  exact ⟨rfl, rfl⟩
set_option maxRecDepth 100000 in
set_option maxHeartbeats 2000000 in
theorem Unpin_yes {w : World} {p e mb room : Nat} {ns : N} (h : LruIn w p e mb room ns) {i : Nat} (hi : i < ns.length) (hn : ns[i].2.2 ≠ 0) (hm : ns[i].2.2 < 4000000000) :
    Calls Try.prog 19 #[.pointer (some ⟨p, 0, none⟩), .int .i64 ns[i].2.1] w fun r w' => r = .returned (.int .i64 0) ∧ LruIn w' p e mb room (pinN ns i (ns[i].2.2 - 1)) ∧ Only (Foot p e mb ns) w w' := by
  have c2 := h.c2
  have hlk := h.look_yes hi
  have hf := h.ring.free (List.getElem_mem hi)
  have c3 := hf.c3
  have f3 := hf.f3
  have hnew := h.pinned hi (ns[i].2.2 - 1)
  have ho : Only (Foot p e mb ns) w (w.setCell ⟨ns[i].1, 3, none⟩ (.int .i64 ((ns[i].2.2 - 1 : Nat) : Int))) := Only.setCell _ _ _ _ (foot_of_ring (List.mem_cons_of_mem _ (blk_at hi)))
  obtain ⟨ms, hms⟩ : ∃ ms, ms = pinN ns i (ns[i].2.2 - 1) := ⟨_, rfl⟩
  rw [← hms] at hnew ⊢
  clear hms hf
  obtain ⟨x, hx⟩ : ∃ x, x = ns[i] := ⟨_, rfl⟩
  rw [← hx] at hlk c3 f3 hnew ho hn hm ⊢
  clear hx h hi
  obtain ⟨b, k, n⟩ := x
  dsimp only at hlk c3 f3 hnew ho hn hm ⊢
  have HN : Hid (LruIn (w.setCell ⟨b, 3, none⟩ (.int .i64 ((n - 1 : Nat) : Int))) p e mb room ms) := hnew
  have HO : Hid (Only (Foot p e mb ns) w (w.setCell ⟨b, 3, none⟩ (.int .i64 ((n - 1 : Nat) : Int)))) := ho
  have e1 : ((n - 1 : Nat) : Int) = (n : Int) - 1 := by omega
  have e2 : ((n : Int) == 0) = false := by rw [beq_eq_false_iff_ne]; omega
  rw [e1] at HN HO
  clear hnew ho e1 hn
  go_enter Try.func19, Try.ntmps19
  go_wp2
  go_ret
  exact ⟨rfl, HN.out, HO.out⟩
set_option maxRecDepth 100000 in
set_option maxHeartbeats 2000000 in
theorem Drop_no {w : World} {p e mb room : Nat} {ns : N} (h : LruIn w p e mb room ns) {k : Int} (hk : Ok k) (hno : ∀ x ∈ ns, x.2.1 ≠ k) :
    Calls Try.prog 18 #[.pointer (some ⟨p, 0, none⟩), .int .i64 k] w fun r w' => r = .returned (.int .i64 3) ∧ w' = w := by
  have c2 := h.c2
  have hl := h.look_no hk hno
  clear h hk hno
  go_enter Try.func18, Try.ntmps18
  go_wp2
  go_ret
  exact ⟨rfl, rfl⟩
set_option maxRecDepth 100000 in
set_option maxHeartbeats 2000000 in
theorem Drop_held {w : World} {p e mb room : Nat} {ns : N} (h : LruIn w p e mb room ns) {i : Nat} (hi : i < ns.length) (hn : ns[i].2.2 ≠ 0) :
    Calls Try.prog 18 #[.pointer (some ⟨p, 0, none⟩), .int .i64 ns[i].2.1] w fun r w' => r = .returned (.int .i64 5) ∧ w' = w := by
  have c2 := h.c2
  have hlk := h.look_yes hi
  have c3 := (h.ring.free (List.getElem_mem hi)).c3
  obtain ⟨x, hx⟩ : ∃ x, x = ns[i] := ⟨_, rfl⟩
  rw [← hx] at hlk c3 hn ⊢
  clear hx h hi
  obtain ⟨b, k, n⟩ := x
  dsimp only at hlk c3 hn ⊢
  have e2 : (0 : Int) < (n : Int) := by omega
  clear hn
  go_enter Try.func18, Try.ntmps18
  go_wp2
  go_ret
  exact ⟨rfl, rfl⟩
set_option maxRecDepth 100000 in
set_option maxHeartbeats 2000000 in
theorem Drop_yes {w : World} {p e mb room : Nat} {ns : N} (h : LruIn w p e mb room ns) {i : Nat} (hi : i < ns.length) (hn : ns[i].2.2 = 0) :
    Calls Try.prog 18 #[.pointer (some ⟨p, 0, none⟩), .int .i64 ns[i].2.1] w fun r w' => r = .returned (.int .i64 0) ∧ LruIn w' p e mb room (ns.eraseIdx i) ∧ Only (Foot p e mb ns) w w' := by
  have c2 := h.c2
  have hlk := h.look_yes hi
  have c3 := (h.ring.free (List.getElem_mem hi)).c3
  have hr := remove_any h hi
  rw [hn] at c3
  obtain ⟨x, hx⟩ : ∃ x, x = ns[i] := ⟨_, rfl⟩
  rw [← hx] at hlk c3 hr ⊢
  clear hx hn h hi
  obtain ⟨b, k, n⟩ := x
  dsimp only at hlk c3 hr ⊢
  go_enter Try.func18, Try.ntmps18
  go_wp2_with fail
  refine hr.mono ?_
  rintro r w1 ⟨rfl, hin, _, ho⟩
  have HN : Hid (LruIn w1 p e mb room (ns.eraseIdx i)) := hin
  have HO : Hid (Only (Foot p e mb ns) w w1) := ho
  clear hin ho hr hlk c2 c3
  go_wp2
  go_ret
  exact ⟨rfl, HN.out, HO.out⟩
end Go.Proofs.Ytmmhfkohfijlaaa
