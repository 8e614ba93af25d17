/- The walk of Put: the key is there already; there is room for it; one has to go for it; none can. -/
import Derived.Test.YtmmhfkohfijlaaaLrCalls
import Derived.Test.YtmmhfkohfijlaaaLrOld
import Derived.BigQuiet
namespace Go.Proofs.Ytmmhfkohfijlaaa
open Go.RowKit Go.Maps Go.Shelf Lr
attribute [local go_sem] Oper.semAt_some

set_option maxRecDepth 100000 in
set_option maxHeartbeats 2000000 in
theorem Put_has {w : World} {p e mb room : Nat} {ns : N} (h : LruIn w p e mb room ns) {i : Nat} (hi : i < ns.length) :
    Calls Try.prog 16 #[.pointer (some ⟨p, 0, none⟩), .int .i64 ns[i].2.1] w fun r w' => r = .returned (.tuple #[.int .i64 0, .bool false, .int .i64 0]) ∧ LruIn w' p e mb room (ns[i] :: ns.eraseIdx i) ∧ Only (Foot p e mb ns) w w' := by
  have hg := Get_yes h hi
  obtain ⟨x, hx⟩ : ∃ x, x = ns[i] := ⟨_, rfl⟩
  rw [← hx] at hg ⊢
  clear hx hi h
  obtain ⟨b, k, n⟩ := x
  dsimp only at hg ⊢
  go_enter Try.func16, Try.ntmps16
  go_wp2_with fail
  refine hg.mono ?_
  rintro r w1 ⟨rfl, hin, ho⟩
  have HIN : Hid (LruIn w1 p e mb room ((b, k, n) :: ns.eraseIdx i)) := hin
  have HO : Hid (Only (Foot p e mb ns) w w1) := ho
  clear hin ho hg
  go_wp2
  go_ret3
  exact ⟨rfl, HIN.out, HO.out⟩

set_option maxRecDepth 100000 in
set_option maxHeartbeats 2000000 in
theorem Put_room {w : World} {p e mb room : Nat} {ns : N} (h : LruIn w p e mb room ns) {k : Int} (hk : Ok k) (hno : ∀ x ∈ ns, x.2.1 ≠ k) (hroom : ns.length < room) :
    Calls Try.prog 16 #[.pointer (some ⟨p, 0, none⟩), .int .i64 k] w fun r w' => r = .returned (.tuple #[.int .i64 0, .bool false, .int .i64 0]) ∧ LruIn w' p e mb room ((w.heap.size, k, 0) :: ns) ∧ Only (Foot p e mb ns) w w' := by
  have hg := Get_no h hk hno
  have c0 := h.c0
  have c2 := h.c2
  obtain ⟨N, hN⟩ : ∃ N, N = ns.length := ⟨_, rfl⟩
  have hlen : ∀ q ty, (Builtin.len_ #[52] ty #[.map (some mb)]).run Try.prog (w.drewN q) = .ok (.int .i64 (N : Nat)) (w.drewN q) := fun q ty => by
    obtain ⟨g, hm, _⟩ := h.map
    rw [hN]
    exact (hm.only (w' := w.drewN q) ⟨rfl, rfl, rfl, Nat.le_refl _, fun _ _ _ => rfl⟩ (F := fun _ => False) (fun h => h)).len ty
  have hlt : ((N : Nat) : Int) < (room : Nat) := by omega
  have he : ∀ q, Calls Try.prog 30 #[.pointer (some ⟨p, 0, none⟩), .int .i64 k] (w.drewN q) fun r w' => r = .returned (.tuple #[]) ∧ LruIn w' p e mb room ((w.heap.size, k, 0) :: ns) ∧ Only (Foot p e mb ns) (w.drewN q) w' := fun q =>
    enter_any (h.only (w' := w.drewN q) (F := fun _ => False) ⟨rfl, rfl, rfl, Nat.le_refl _, fun _ _ _ => rfl⟩ (fun _ _ h => h)) hk hno hroom
  have HE : Hid (∀ q, Calls Try.prog 30 #[.pointer (some ⟨p, 0, none⟩), .int .i64 k] (w.drewN q) fun r w' => r = .returned (.tuple #[]) ∧ LruIn w' p e mb room ((w.heap.size, k, 0) :: ns) ∧ Only (Foot p e mb ns) (w.drewN q) w') := he
  clear h hno hk hN hroom he
  go_enter Try.func16, Try.ntmps16
  go_wp2_with fail
  refine hg.mono ?_
  rintro r w1 ⟨rfl, rfl⟩
  clear hg
  go_wp2_with fail
  go_quiet (fail)
  go_wp2_with fail
  refine (HE.out nq).mono ?_
  rintro r w2 ⟨rfl, hin, ho⟩
  have HIN : Hid (LruIn w2 p e mb room ((w1.heap.size, k, 0) :: ns)) := hin
  have HO : Hid (Only (Foot p e mb ns) w1 w2) := ⟨ho.os, ho.tape, ho.output, ho.size, ho.block⟩
  clear hin ho HE hlen
  go_wp2
  go_ret3
  exact ⟨rfl, HIN.out, HO.out⟩

/-- what Put answers where there is no room -/
def FullAns (w : World) (p e mb room : Nat) (ns : N) (k : Int) (r : Ending) (w' : World) : Prop :=
  (r = .returned (.tuple #[.int .i64 0, .bool false, .int .i64 130]) ∧ (∀ x ∈ ns, x.2.2 ≠ 0) ∧ LruIn w' p e mb room ns ∧ Only (Foot p e mb ns) w w') ∨
  ∃ i, ∃ h : i < ns.length, ∃ b, w.heap.size ≤ b ∧ ns[i].2.2 = 0 ∧ (∀ j, i < j → ∀ h : j < ns.length, ns[j].2.2 ≠ 0) ∧ r = .returned (.tuple #[.int .i64 ns[i].2.1, .bool true, .int .i64 0]) ∧ LruIn w' p e mb room ((b, k, 0) :: ns.eraseIdx i) ∧ Only (Foot p e mb ns) w w'

theorem split_at {ns pr t : N} {x : Nat × Int × Nat} (h : ns.reverse = pr ++ x :: t) : ∃ hi : t.length < ns.length, ns[t.length] = x ∧ ∀ j, t.length < j → ∀ hj : j < ns.length, ns[j] ∈ pr := by
  have h1 : ns = t.reverse ++ x :: pr.reverse := by
    have := congrArg List.reverse h
    simpa using this
  subst h1
  refine ⟨by simp, by simp, fun j h1 hj => ?_⟩
  rw [List.getElem_append_right (by simp; omega)]
  have : (x :: pr.reverse)[j - t.reverse.length]'(by simp at hj ⊢; omega) ∈ pr.reverse := by
    rw [List.getElem_cons]
    rw [dif_neg (by simp; omega)]
    exact List.getElem_mem _
  simpa using this

set_option maxRecDepth 100000 in
set_option maxHeartbeats 4000000 in
theorem Put_full {w : World} {p e mb room : Nat} {ns : N} (h : LruIn w p e mb room ns) {k : Int} (hk : Ok k) (hno : ∀ x ∈ ns, x.2.1 ≠ k) (hroom : ns.length = room) :
    Calls Try.prog 16 #[.pointer (some ⟨p, 0, none⟩), .int .i64 k] w (FullAns w p e mb room ns k) := by
  have hg := Get_no h hk hno
  have c0 := h.c0
  have c2 := h.c2
  have hlen : ∀ q ty, (Builtin.len_ #[52] ty #[.map (some mb)]).run Try.prog (w.drewN q) = .ok (.int .i64 (room : Nat)) (w.drewN q) := fun q ty => by
    obtain ⟨g, hm, _⟩ := h.map
    rw [← hroom]
    exact (hm.only (w' := w.drewN q) ⟨rfl, rfl, rfl, Nat.le_refl _, fun _ _ _ => rfl⟩ (F := fun _ => False) (fun h => h)).len ty
  have hQ : ∀ q, LruIn (w.drewN q) p e mb room ns := fun q => h.only (w' := w.drewN q) (F := fun _ => False) ⟨rfl, rfl, rfl, Nat.le_refl _, fun _ _ _ => rfl⟩ (fun _ _ h => h)
  have HQ : Hid (∀ q, LruIn (w.drewN q) p e mb room ns) := hQ
  have HNO : Hid (∀ x ∈ ns, x.2.1 ≠ k) := hno
  have HK : Hid (Ok k) := hk
  have HR : Hid (ns.length = room) := hroom
  clear h hno hk hroom hQ
  go_enter Try.func16, Try.ntmps16
  go_wp2_with fail
  refine hg.mono ?_
  rintro r w1 ⟨rfl, rfl⟩
  clear hg
  go_wp2_with fail
  go_quiet (fail)
  go_wp2_with fail
  refine (oldest_any (HQ.out nq)).mono ?_
  rintro r w2 ⟨⟨rfl, hall⟩ | ⟨pr, x, t, hrv, hp, hz, rfl⟩, hb⟩
  · have HIN : Hid (LruIn w2 p e mb room ns) := (HQ.out nq).only (Only.of_below hb (fun _ => False)) (fun _ _ h => h)
    have HO : Hid (Only (Foot p e mb ns) w1 w2) := by
      have := Only.of_below hb (Foot p e mb ns)
      exact ⟨this.os, this.tape, this.output, this.size, this.block⟩
    have HA : Hid (∀ x ∈ ns, x.2.2 ≠ 0) := hall
    clear hb hall hlen
    go_wp2
    go_ret3
    exact .inl ⟨rfl, HA.out, HIN.out, HO.out⟩
  · obtain ⟨hi, hx, hlater⟩ := split_at hrv
    obtain ⟨i, hit⟩ : ∃ i, i = t.length := ⟨_, rfl⟩
    have hin2 : LruIn w2 p e mb room ns := (HQ.out nq).only (Only.of_below hb (fun _ => False)) (fun _ _ h => h)
    have HO : Hid (Only (Foot p e mb ns) w1 w2) := by
      have := Only.of_below hb (Foot p e mb ns)
      exact ⟨this.os, this.tape, this.output, this.size, this.block⟩
    have hrm := remove_any hin2 hi
    have hnb := erased_not hi hin2.ring.nd
    have hfoot : Foot p e mb ns ns[t.length].1 := foot_of_ring (List.mem_cons_of_mem _ (blk_at hi))
    have hxp := hin2.p_ring
    have hxm := hin2.mb_ring
    have hmem : ns[t.length].1 ∈ e :: blk ns := List.mem_cons_of_mem _ (blk_at hi)
    have hAns : ∀ (r : Ending) (w' : World) b, w1.heap.size ≤ b → r = .returned (.tuple #[.int .i64 x.2.1, .bool true, .int .i64 0]) → LruIn w' p e mb room ((b, k, 0) :: ns.eraseIdx t.length) → Only (Foot p e mb ns) w1 w' → FullAns w1 p e mb room ns k r w' := fun r w' b h1 h2 h3 h4 =>
      .inr ⟨t.length, hi, b, h1, by rw [hx]; exact hz, fun j hj hjl => hp _ (hlater j hj hjl), by rw [hx]; exact h2, h3, h4⟩
    rw [hx] at hrm hnb hmem
    obtain ⟨b, k0, n⟩ := x
    dsimp only at hrm hnb hAns hmem
    have HNB : Hid (b ∉ e :: blk (ns.eraseIdx t.length)) := hnb
    have HME : Hid (b ∈ e :: blk ns) := hmem
    have HXP : Hid (p ∉ e :: blk ns) := hxp
    have HXM : Hid (mb ∉ e :: blk ns) := hxm
    have HAns : Hid (∀ (r : Ending) (w' : World) b, w1.heap.size ≤ b → r = .returned (.tuple #[.int .i64 k0, .bool true, .int .i64 0]) → LruIn w' p e mb room ((b, k, 0) :: ns.eraseIdx t.length) → Only (Foot p e mb ns) w1 w' → FullAns w1 p e mb room ns k r w') := hAns
    have HL : Hid ((ns.eraseIdx t.length).length < room) := by show _ < _; rw [List.length_eraseIdx, if_pos hi, ← HR.out]; omega
    obtain ⟨ms, hms⟩ : ∃ ms, ms = ns.eraseIdx t.length := ⟨_, rfl⟩
    have HMS : Hid (∀ y ∈ ms, y ∈ ns) := fun y hy => by rw [hms] at hy; exact List.mem_of_mem_eraseIdx hy
    rw [← hms] at hrm HNB HAns HL
    have HRM : Hid (Calls Try.prog 32 #[.pointer (some ⟨p, 0, none⟩), .pointer (some ⟨b, 0, none⟩)] w2 fun r w' => r = .returned (.tuple #[]) ∧ LruIn w' p e mb room ms ∧ FreeAt w' (b, k0, n) ∧ Only (Foot p e mb ns) w2 w') := hrm
    clear hi hx hlater hit hin2 hrm hnb hfoot hxp hxm hmem hAns hms hrv hp hz hb hlen c0 c2
    go_wp2_with fail
    refine HRM.out.mono ?_
    rintro r w3 ⟨rfl, hin3, hf3, ho3⟩
    have HIN3 : Hid (LruIn w3 p e mb room ms) := hin3
    have HF3 : Hid (FreeAt w3 (b, k0, n)) := hf3
    have HO3 : Hid (Only (Foot p e mb ns) w1 w3) := HO.out.then ho3
    clear hin3 hf3 ho3 HRM
    go_wp2_with fail
    refine (enter_any HIN3.out HK.out (fun y hy => HNO.out y (HMS.out y hy)) HL.out).mono ?_
    rintro r w4 ⟨rfl, hin4, ho4⟩
    have hnf : ¬ Foot p e mb ms b := fun hf => by
      rcases hf with e1 | e1 | e1
      · exact HXP.out (by rw [← e1]; exact HME.out)
      · exact HXM.out (by rw [← e1]; exact HME.out)
      · exact HNB.out e1
    have hf4 : FreeAt w4 (b, k0, n) := HF3.out.only ho4 hnf
    have c4 := hf4.c2
    have HIN4 : Hid (LruIn w4 p e mb room ((w3.heap.size, k, 0) :: ms)) := hin4
    have HO4 : Hid (Only (Foot p e mb ns) w1 w4) := HO3.out.then (ho4.mono fun j hj => by
      rcases hj with e1 | e1 | e1
      · exact .inl e1
      · exact .inr (.inl e1)
      · refine .inr (.inr ?_)
        rcases List.mem_cons.1 e1 with e1 | e1
        · rw [e1]; exact List.mem_cons_self ..
        · obtain ⟨y, hy, rfl⟩ := List.mem_map.1 e1
          exact List.mem_cons_of_mem _ (List.mem_map.2 ⟨y, HMS.out y hy, rfl⟩))
    clear hin4 ho4 hnf hf4
    dsimp only at c4
    go_wp2
    go_ret3
    exact HAns.out _ _ _ HO3.out.size rfl HIN4.out HO4.out
end Go.Proofs.Ytmmhfkohfijlaaa
