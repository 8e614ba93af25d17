/- The walks of a list's own functions but for those that go through its ring: a new list, one enters it, one is removed, Get, Pin, Unpin, Drop, Pinned. -/
import Derived.Test.YtmmhfkohfijlaaaLrAt
namespace Go.Proofs.Ytmmhfkohfijlaaa
open Go.RowKit Go.Maps Lr
attribute [local go_sem] Oper.semAt_some

namespace Lr
theorem erase_perm {α : Type} : ∀ {l : List α} {i : Nat} (h : i < l.length), (l[i] :: l.eraseIdx i).Perm l
  | _ :: _, 0, _ => List.Perm.refl _
  | a :: l, i + 1, h => (List.Perm.swap a _ _).trans ((erase_perm (l := l) (i := i) (by simpa using h)).cons a)
variable {w w' : World} {p e mb room : Nat} {ns : N}
theorem LruIn.perm (h : LruIn w p e mb room ns) {ms : N} (hp : ms.Perm ns) (hs : w'.heap[p]? = w.heap[p]?) (hr : RingAt w' e ms) (hm : KeyMap w' mb ns) : LruIn w' p e mb room ms :=
  ⟨h.room1, h.room64, by rw [hp.length_eq]; exact h.full, (hp.map _).nodup_iff.2 h.nd, fun x hx => h.okk x (hp.mem_iff.1 hx), hs.trans h.self, hr,
    hm.perm hp.length_eq (fun x hx => ⟨x, hp.mem_iff.1 hx, rfl, rfl⟩) (fun y hy => ⟨y, hp.mem_iff.2 hy, rfl⟩)⟩
theorem front_perm {i : Nat} (hi : i < ns.length) : (ns[i] :: ns.eraseIdx i).Perm ns := erase_perm hi
theorem foot_of_ring {k : Nat} (h : k ∈ e :: blk ns) : Foot p e mb ns k := .inr (.inr h)
theorem blk_at {i : Nat} (hi : i < ns.length) : ns[i].1 ∈ blk ns := List.mem_map.2 ⟨_, List.getElem_mem hi, rfl⟩
theorem erased_not {i : Nat} (hi : i < ns.length) (h : (e :: blk ns).Nodup) : ns[i].1 ∉ e :: blk (ns.eraseIdx i) := fun hm => by
  rcases List.mem_cons.1 hm with hm | hm
  · exact (List.nodup_cons.1 h).1 (by rw [← hm]; exact blk_at hi)
  · obtain ⟨y, hy, he⟩ := List.mem_map.1 hm
    obtain ⟨j, hj, hji, rfl⟩ := List.mem_eraseIdx_iff_getElem.1 hy
    exact hji (nodup_at (List.nodup_cons.1 h).2 (by simpa using hj) (by simpa using hi) (by simpa using he))
end Lr

set_option maxRecDepth 100000 in
set_option maxHeartbeats 1000000 in
theorem New_no (r : Int) (h : ¬ (1 ≤ r ∧ r ≤ 64)) (w : World) : Calls Try.prog 9 #[.int .i64 r] w fun e w' => e = .returned (.pointer none) ∧ w' = w := by
  by_cases h1 : r < 1
  · go_enter Try.func9, Try.ntmps9
    go_wp2
    go_ret
    exact ⟨rfl, rfl⟩
  · have h2 : 64 < r := by omega
    go_enter Try.func9, Try.ntmps9
    go_wp2
    go_ret
    exact ⟨rfl, rfl⟩

set_option maxRecDepth 100000 in
set_option maxHeartbeats 1000000 in
theorem New_lru (r : Nat) (h1 : 1 ≤ r) (h2 : r ≤ 64) (w : World) : Calls Try.prog 9 #[.int .i64 (r : Nat)] w fun e w' => ∃ p, e = .returned (.pointer (some ⟨p, 0, none⟩)) ∧ LruAt w' p r [] (fun k => w.heap.size ≤ k) ∧ Below w.heap.size w w' := by
  have g1 : ¬ ((r : Nat) : Int) < 1 := by omega
  have g2 : ¬ (64 : Int) < ((r : Nat) : Int) := by omega
  go_enter Try.func9, Try.ntmps9
  go_wp2_with fail
  refine (ring_new w).mono ?_
  rintro e w1 ⟨rfl, hn, hb⟩
  obtain ⟨b, hb0⟩ : ∃ b, b = w.heap.size := ⟨_, rfl⟩
  rw [← hb0] at hn ⊢
  have HN : Hid (Nodes w1 [b] (fun _ => b) (fun _ => b) (fun _ => (0, 0))) := hn
  have HB : Hid (Below w.heap.size w w1) := hb
  have HE : Hid (b = w.heap.size) := hb0
  clear hn hb hb0
  have m3 := fun W => run_makeMap (P := Try.prog) 52 W
  go_wp2
  go_ret
  have k1 := Only.alloc (fun _ => False) w1 (.map #[] 0)
  have hM := MapP.made w1
  have k2 := Only.alloc (fun _ => False) (w1.alloc (.map #[] 0)) (.cells #[.int .i64 (r : Nat), .pointer (some ⟨b, 0, none⟩), .map (some w1.heap.size)] 54)
  have hsz := HB.out.size
  have hbe := HE.out
  refine ⟨w1.heap.size + 1, by first | rfl | simp, ⟨b, w1.heap.size, [], ⟨h1, h2, Nat.zero_le _, List.Pairwise.nil, fun x hx => by simp at hx, ?_, ⟨_, _, _, Rg.one b rfl rfl, (HN.out.only k1 (fun _ _ h => h)).only k2 (fun _ _ h => h), fun x hx => by simp at hx⟩, ⟨_, hM.only k2 (fun h => h), fun x hx => by simp at hx, fun _ _ => rfl⟩⟩, rfl, fun k hk => ?_⟩, ?_⟩
  · have := World.alloc_heap_new (w1.alloc (.map #[] 0)) (.cells #[.int .i64 (r : Nat), .pointer (some ⟨b, 0, none⟩), .map (some w1.heap.size)] 54)
    rw [World.size_alloc] at this; exact this
  · rcases hk with rfl | rfl | hk
    · omega
    · omega
    · have := List.mem_singleton.1 hk; omega
  · exact (HB.out.alloc hsz _).alloc (by simp; omega) _

set_option maxRecDepth 100000 in
set_option maxHeartbeats 2000000 in
theorem enter_any {w : World} {p e mb room : Nat} {ns : N} (h : LruIn w p e mb room ns) {k : Int} (hk : Ok k) (hno : ∀ x ∈ ns, x.2.1 ≠ k) (hroom : ns.length < room) :
    Calls Try.prog 30 #[.pointer (some ⟨p, 0, none⟩), .int .i64 k] w fun r w' => r = .returned (.tuple #[]) ∧ LruIn w' p e mb room ((w.heap.size, k, 0) :: ns) ∧ Only (Foot p e mb ns) w w' := by
  obtain ⟨b, hb⟩ : ∃ b, b = w.heap.size := ⟨_, rfl⟩
  have plt : p < w.heap.size := h.lt (.inl rfl)
  have c1 := h.c1
  have hA := h.only (Only.alloc (fun _ => False) w (.cells #[.pointer none, .pointer none, .int .i64 k, .int .i64 0] 59)) (fun _ _ hf => hf)
  have hF : FreeAt (w.alloc (.cells #[.pointer none, .pointer none, .int .i64 k, .int .i64 0] 59)) (b, k, 0) := ⟨.pointer none, .pointer none, by rw [hb]; exact World.alloc_heap_new w _⟩
  have hO := Only.alloc (Foot p e mb ns) w (.cells #[.pointer none, .pointer none, .int .i64 k, .int .i64 0] 59)
  have hbn : ∀ j, Foot p e mb ns j → j ≠ b := fun j hj e => by have := h.lt hj; omega
  have HA : Hid (LruIn (w.alloc (.cells #[.pointer none, .pointer none, .int .i64 k, .int .i64 0] 59)) p e mb room ns) := hA
  have HF : Hid (FreeAt (w.alloc (.cells #[.pointer none, .pointer none, .int .i64 k, .int .i64 0] 59)) (b, k, 0)) := hF
  have HO : Hid (Only (Foot p e mb ns) w (w.alloc (.cells #[.pointer none, .pointer none, .int .i64 k, .int .i64 0] 59))) := hO
  have HBN : Hid (∀ j, Foot p e mb ns j → j ≠ b) := hbn
  have HNO : Hid (∀ x ∈ ns, x.2.1 ≠ k) := hno
  have HR : Hid (ns.length < room) := hroom
  have HK : Hid (Ok k) := hk
  have HWB : Hid (w.heap.size ≤ b) := by show _ ≤ _; omega
  rw [← hb]
  clear h hA hF hO hbn hno hroom hk
  go_enter Try.func30, Try.ntmps30
  go_wp2_with fail
  rw [← hb]
  generalize ew : w.alloc (.cells #[.pointer none, .pointer none, .int .i64 k, .int .i64 0] 59) = w1 at HA HF HO ⊢
  clear ew hb plt c1
  have hnb : b ∉ e :: blk ns := fun hm => HBN.out b (foot_of_ring hm) rfl
  refine (follow_at (x := (b, k, 0)) HA.out.ring hnb HF.out).mono ?_
  rintro r w2 ⟨rfl, hr, ho⟩
  obtain ⟨g, hm, hg2, hg3⟩ := HA.out.map
  have nP : p ∉ b :: e :: blk ns := fun hm => by
    rcases List.mem_cons.1 hm with e1 | e1
    · exact HBN.out p (.inl rfl) e1
    · exact HA.out.p_ring e1
  have nM : mb ∉ b :: e :: blk ns := fun hm => by
    rcases List.mem_cons.1 hm with e1 | e1
    · exact HBN.out mb (.inr (.inl rfl)) e1
    · exact HA.out.mb_ring e1
  have hself := (ho.block p (HA.out.lt (.inl rfl)) nP).trans HA.out.self
  have c2 : w2.cell? ⟨p, 2, none⟩ = some (.map (some mb)) := by rw [cell_of_row w2 p 2 _ _ _ hself]; rfl
  have HS : Hid (w2.heap[p]? = some (.cells #[.int .i64 (room : Nat), .pointer (some ⟨e, 0, none⟩), .map (some mb)] 54 (0, 0))) := hself
  have HM : Hid (MapP w2 mb ns.length g) := hm.only ho nM
  have HR2 : Hid (RingAt w2 e ((b, k, 0) :: ns)) := hr
  have HO2 : Hid (Only (Foot p e mb ns) w w2) := HO.out.trans (ho.mono fun j hj => by
    rcases List.mem_cons.1 hj with rfl | hj
    · exact .inr HWB.out
    · exact .inl (foot_of_ring hj))
  have hgk : g k = none := hg3 k HNO.out
  have HG : Hid (g k = none) := hgk
  have HG2 : Hid (∀ x ∈ ns, g x.2.1 = some x.1) := hg2
  have HG3 : Hid (∀ k, (∀ x ∈ ns, x.2.1 ≠ k) → g k = none) := hg3
  have HNP : Hid (p ∉ b :: e :: blk ns) := nP
  have HNM : Hid (mb ∉ b :: e :: blk ns) := nM
  clear hr ho hm hg2 hg3 nP nM hself hgk hnb
  go_wp2_with (at_mapUpdate; refine wpList_putP rfl _ _ _ rfl rfl HM.out (by have h1 := HR.out; have h2 := HA.out.room64; unfold maxLen; omega) HK.out HG.out rfl rfl ?_; intro w3 hm3 ho3)
  have HM3 : Hid (KeyMap w3 mb ((b, k, 0) :: ns)) := KeyMap.put (y := (b, k, 0)) HNO.out HG2.out HG3.out hm3
  go_end0
  refine ⟨rfl, ⟨HA.out.room1, HA.out.room64, HR.out, ?_, fun x hx => ?_, (ho3.block p ?_ ?_).trans HS.out, HR2.out.only ho3 ?_, HM3.out⟩, HO2.out.then (ho3.mono fun j hj => .inr (.inl hj))⟩
  · refine List.nodup_cons.2 ⟨fun hm => ?_, HA.out.nd⟩
    obtain ⟨x, hx, he⟩ := List.mem_map.1 hm
    exact HNO.out x hx he
  · rcases List.mem_cons.1 hx with rfl | hx
    · exact HK.out
    · exact HA.out.okk x hx
  · exact (Array.getElem?_eq_some_iff.1 HS.out).1
  · exact HA.out.p_mb
  · intro j hj e1
    have e2 : j = mb := e1
    subst e2
    refine HNM.out ?_
    simp only [List.map_cons, List.mem_cons] at hj ⊢
    rcases hj with hj | hj | hj
    · exact .inr (.inl hj)
    · exact .inl hj
    · exact .inr (.inr hj)
end Go.Proofs.Ytmmhfkohfijlaaa
