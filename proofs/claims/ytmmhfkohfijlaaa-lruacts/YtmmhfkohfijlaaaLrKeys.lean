/- The walk of Keys: what the iterator tells, turned round. -/
import Derived.Test.YtmmhfkohfijlaaaLrIter
import Derived.Test.YtmmhfkohfijlaaaShelf
import Derived.Test.YtmmhfkohfijlaaaKitRound
import Derived.Test.YtmmhfkohfijlaaaKitRow
import Derived.Sort.OwnSortedInts
namespace Go.Proofs.Ytmmhfkohfijlaaa
open Go.RowKit Go.Maps Go.Shelf Lr
attribute [local go_sem] Oper.semAt_some

/-- numbers as a slice's cells -/
abbrev iV (l : List Int) : List Value := l.map (Value.int .i64)
theorem iV_snoc (l : List Int) (x : Int) : iV l ++ [.int .i64 x] = iV (l ++ [x]) := by simp [iV]

open Go.Sort in
/-- a row of the call's own, turned round -/
theorem Reverse_own {w : World} {base n : Nat} {v : Value} {l : List Int} (h : w.ownsRow base 3 1 v n (iV l)) (hm : n ≤ 1000000) :
    Calls Try.prog 28 #[v] w fun e w' => e = .returned (.tuple #[]) ∧ w'.ownsRow base 3 1 v n (iV l.reverse) ∧ w.grownBy w' v.ownBlock := by
  have hn : l.length = n := by have := h.1; rw [List.length_map] at this; omega
  subst hn
  rcases h.2 with ⟨rfl, h0⟩ | ⟨g, cap, cur, rfl, hb, hg, r1, r2, r3, r4⟩
  · have hl : l = [] := List.length_eq_zero_iff.1 h0
    subst hl
    refine (Try.slices_Reverse_int_empty none 0 w).mono ?_
    rintro e w' ⟨rfl, rfl⟩
    exact ⟨rfl, h, ⟨rfl, rfl, rfl, Nat.le_refl _, fun _ _ _ => rfl⟩⟩
  · have hH : Holds (Value.int .i64) w g 0 l.toArray := holds_of_blockI hg (by rw [Nat.mul_one] at r4; exact r4)
    refine (Try.slices_Reverse_int g 0 cap l w hH (by omega)).mono ?_
    rintro e w' ⟨rfl, k, rfl⟩
    have h1 := ownsRow_sortedI (n := k) (os := #[]) (ts := l.reverse) (by simp) hb hg r1 r2 r3
    have h2 := grownBy_sortedI (w := w) (g := g) (n := k) (os := #[]) l.reverse.toArray
    rw [grow_empty] at h1 h2
    exact ⟨rfl, h1, h2⟩

set_option maxRecDepth 100000 in
set_option maxHeartbeats 4000000 in
theorem Keys_any {w : World} {p e mb room : Nat} {ns : N} (h : LruIn w p e mb room ns) :
    Calls Try.prog 13 #[.pointer (some ⟨p, 0, none⟩)] w fun r w' => (∃ v, r = .returned v ∧ w'.ownsRow w.heap.size 3 1 v ns.length (iV (ns.map fun x => x.2.1))) ∧ Below w.heap.size w w' := by
  have plt := h.lt (.inl rfl)
  have c1 := h.c1
  have kb1 := (Below.refl _ w).alloc (Nat.le_refl w.heap.size) (.cells #[.slice none 0 0] 32)
  have hR : Hid (RingAt w e ns) := h.ring
  have hlen : ns.length ≤ 64 := Nat.le_trans h.full h.room64
  obtain ⟨i0, hi, hz0, hz1, hz2⟩ := info_parts (show (Try.prog.info? 3).map (fun i => (i.zero, i.size, i.bytes)) = some (some (.int .i64 0), 1, 8) by kernel_rfl)
  have HI0 : Hid (Try.prog.info? 3 = some i0 ∧ i0.zero = some (.int .i64 0) ∧ i0.size = 1 ∧ i0.bytes = 8) := ⟨hi, hz0, hz1, hz2⟩
  have HMX : Hid (Try.prog.follows .mixedOrders = true) := by show _ = _; kernel_rfl
  clear h hi hz0 hz1 hz2
  refine (callsIn_wide (n := 3)).1 ?_
  refine callsIn_of_wp_marks Try.func13 rfl trivial ?_ rfl
  simp only [Try.ntmps13, List.size_toArray, List.length_cons, List.length_nil, Nat.reduceAdd, Nat.reduceSub, Array.replicate_succ, Array.replicate_zero, List.push_toArray, List.append_toArray, List.nil_append, List.cons_append]
  gi_wp2_with fail
  refine ⟨trivial, (callsIn_wide.2 (upward_any e _)).mono ?_⟩
  rintro r w' ⟨rfl, rfl⟩
  gi_wp2_with fail
  have kb2 := kb1.alloc (by simp) (.cells #[.pointer (some ⟨e, 0, none⟩)] 48)
  have bO := (Boxed.new w 32 (.slice none 0 0)).alloc (.cells #[.pointer (some ⟨e, 0, none⟩)] 48)
  have bI := Boxed.new (w.alloc (.cells #[.slice none 0 0] 32)) 48 (.pointer (some ⟨e, 0, none⟩))
  simp only [World.size_alloc] at bI
  have hRX : Hid (RingAt ((w.alloc (.cells #[.slice none 0 0] 32)).alloc (.cells #[.pointer (some ⟨e, 0, none⟩)] 48)) e ns) := hR.out.only (Only.of_below kb2 (fun _ => False)) (fun _ _ h => h)
  have hG : ∀ k, ItG (w.heap.size + 1) e ns k → k < ((w.alloc (.cells #[.slice none 0 0] 32)).alloc (.cells #[.pointer (some ⟨e, 0, none⟩)] 48)).heap.size := fun k hk => by
    rcases hk with rfl | hk
    · simp
    · exact hRX.out.lt hk
  refine wpIn_rangeFunc_ownG rfl (by decide) (gf := 37) (lb := #[.pointer (some ⟨w.heap.size + 1, 0, none⟩)]) rfl trivial (enters_of Try.func37 (by kernel_rfl) rfl)
    (upward_stops Fence.wide (3 - 1) trivial rfl (by decide) (w.heap.size + 1) e ns _ hRX.out bI) (fun h k => SameOn.trans h k) (SameOn.put hG) (Below.refl _ _) (fun _ => rfl)
    (fun pre W => (∃ v, Boxed W w.heap.size 32 v ∧ W.ownsRow w.heap.size 3 1 v pre.length (iV (pre.map fun x => x.1.2.1)) ∧ True) ∧ (Boxed W (w.heap.size + 1) 48 (.pointer (some ⟨e, 0, none⟩)) ∧ Below w.heap.size w W))
    (fun _ _ _ => False)
    (OwnFrom.and (Own.from (holdsRow_own w.heap.size w.heap.size 32 3 1 (fun pre => pre.length) (fun pre : List (In ns) => iV (pre.map fun x => x.1.2.1)) (fun _ _ => True)) _) (OwnFrom.and (Own.from (boxed_own _ _ _) _) (ownFrom_below (Nat.le_refl _) (by simp <;> omega))))
    (fun _ _ _ _ _ hs _ _ => hs)
    ⟨⟨_, bO, World.ownsRow_nil _ _ _ _, trivial⟩, bI, kb2⟩
    (fun x => { tmps := #[.pointer (some ⟨p, 0, none⟩), undef, .slice none 0 0, .pointer (some ⟨w.heap.size, 0, none⟩), .pointer (some ⟨x.1.1, 0, none⟩), .pointer (some ⟨p, 0, none⟩), .pointer (some ⟨p, 0, none⟩), .pointer (some ⟨p, 1, none⟩), .pointer (some ⟨e, 0, none⟩),
          .func (.func 37) #[] #[.pointer (some ⟨w.heap.size + 1, 0, none⟩)], .pointer (some ⟨x.1.1, 0, none⟩), undef, undef, undef, undef, undef, undef, undef, undef, undef, undef, undef], defers := [] }) ?assign ?body ?done ?stop
  case assign =>
    intro l x W K hK
    gi_wp2
    exact hK
  case body =>
    rintro _ pre ⟨x, hx⟩ W ⟨⟨v, hv, hrow, _⟩, hI, hB⟩ hlt
    have c2 := ((hR.out.only (Only.of_below hB (fun _ => False)) (fun _ _ h => h)).free hx).c2
    have hcv := hv.cell
    have hle := hB.size
    obtain ⟨k, hk⟩ : ∃ k, k = x.2.1 := ⟨_, rfl⟩
    rw [← hk] at c2
    have HK : Hid (k = x.2.1) := hk
    have OWN : Hid (W.ownsRow w.heap.size 3 1 v pre.length (iV (pre.map fun x => x.1.2.1))) := hrow
    have HV : Hid (Boxed W w.heap.size 32 v) := hv
    have HI : Hid (Boxed W (w.heap.size + 1) 48 (.pointer (some ⟨e, 0, none⟩))) := hI
    have HB : Hid (Below w.heap.size w W) := hB
    have HLT : Hid (pre.length < ns.length) := hlt
    have hbw : x.1 < w.heap.size := hR.out.lt (List.mem_cons_of_mem _ (List.mem_map.2 ⟨x, hx, rfl⟩))
    obtain ⟨b, k0, n⟩ := x
    dsimp only at c2 HK hbw ⊢
    have BW : Hid (b < w.heap.size) := hbw
    have blt : b < W.heap.size := World.block_lt_of_cell? W _ c2
    have clt : w.heap.size < W.heap.size := hv.lt
    clear hk hrow hv hI hB hlt
    gi_wp2
    have hS0 : (fun w' : World => w'.cell? ⟨b, 2, none⟩ = some (.int .i64 k)) W.drew := c2
    refine region_in_round (fun w' => w'.cell? ⟨b, 2, none⟩ = some (.int .i64 k)) HMX.out (by kernel_rfl) (fun ⟨_, _, h⟩ => h) ?_
    refine held_quiet 1 (v := ?v1q1) rfl (by kernel_rfl) (fun _ _ _ h => h) (by assumption) rfl ?hy1q1 ?rest1q1
    case hy1q1 => (intro wS hSw; (try dsimp only at hSw); go_simp; try with_reducible rfl)
    try simp only [Act.put, List.setIfInBounds_toArray, List.set_cons_zero, List.set_cons_succ]
    refine held_quiet 2 (v := ?v2q2) rfl (by kernel_rfl) (fun _ _ _ h => h) (by assumption) rfl ?hy2q2 ?rest2q2
    case hy2q2 => (intro wS hSw; (try dsimp only at hSw); go_simp; try with_reducible rfl)
    try simp only [Act.put, List.setIfInBounds_toArray, List.set_cons_zero, List.set_cons_succ]
    refine held_quiet 3 (v := ?v3q3) rfl (by kernel_rfl) (fun _ _ _ h => h) (by assumption) rfl ?hy3q3 ?rest3q3
    case hy3q3 => (intro wS hSw; (try dsimp only at hSw); go_simp; try with_reducible rfl)
    try simp only [Act.put, List.setIfInBounds_toArray, List.set_cons_zero, List.set_cons_succ]
    refine held_quiet 4 (v := ?v4q4) rfl (by kernel_rfl) (fun _ _ _ h => h) (by assumption) rfl ?hy4q4 ?rest4q4
    case hy4q4 => (intro wS hSw; (try dsimp only at hSw); go_simp; try with_reducible rfl)
    try simp only [Act.put, List.setIfInBounds_toArray, List.set_cons_zero, List.set_cons_succ]
    refine held_quiet 5 (v := ?v5q5) rfl (by kernel_rfl) (fun _ _ _ h => h) (by assumption) rfl ?hy5q5 ?rest5q5
    case hy5q5 => (intro wS hSw; (try dsimp only at hSw); go_simp; try with_reducible rfl)
    try simp only [Act.put, List.setIfInBounds_toArray, List.set_cons_zero, List.set_cons_succ]
    refine held_two 0 6 rfl rfl (by kernel_rfl) ?_ ?_
    · go_wp2
      try refine ⟨hS0, ?_⟩
      refine held_one 6 rfl (by kernel_rfl) ?_
      go_wp2_with fail
      have hS3 : (W.alloc (.cells #[.int .i64 k] 3)).drew.cell? ⟨b, 2, none⟩ = some (.int .i64 k) := (((Below.refl W.heap.size W).alloc (Nat.le_refl _) _).cell (p := ⟨b, 2, none⟩) blt).trans c2
      try refine ⟨hS3, ?_⟩
      refine held_one 7 rfl (by kernel_rfl) ?_
      obtain ⟨hi, hz0, hz1, hz2⟩ := HI0.out
      have hrw : (W.alloc (.cells #[.int .i64 k] 3)).drew.ownsRow w.heap.size 3 1 v pre.length (iV (pre.map fun x => x.1.2.1)) := OWN.out.alloc (.cells #[.int .i64 k] 3)
      refine wpList_append_own _ rfl _ _ 32 rfl w.heap.size 3 i0 (.int .i64 0) 1 8 Try.underlying32 hi hz0 hz1 hz2 rfl (by decide) v pre.length (iV (pre.map fun x => x.1.2.1)) rfl hrw ⟨W.heap.size, 0, none⟩ 1 1 [.int .i64 k] rfl rfl (cell_one_new _ _ _) (by simp [Value.oneCell']) (by have := HLT.out; unfold maxLen; omega) (by have := HLT.out; omega) (by have := HB.out.size; simp; omega) ?_
      intro v' w1 hown' hgrow _
      obtain ⟨g', cap', rfl⟩ := ownsRow_succ hown'
      obtain ⟨q1, q2, q3, q4, q5⟩ := hgrow
      have hgu : (W.alloc (.cells #[.int .i64 k] 3)).grownBy w1 v.ownBlock := ⟨q1, q2, q3, q4, q5⟩
      obtain ⟨hv1, hv2, hr2, hk2, hb2⟩ := HV.out.appended (by decide) OWN.out HB.out.size (Nat.le_refl _) hown' hgu
      have hbw1 : Below w.heap.size W w1 := ((Below.refl _ W).alloc HB.out.size _).grown hgu (by have := HB.out.size; simp; omega) (fun j q => by
        rcases OWN.out.2 with ⟨rfl, _⟩ | ⟨g, cap, cur, rfl, hge, hg, _⟩
        · simp [Value.ownBlock] at q
        · simp [Value.ownBlock] at q; omega)
      have hS4 : w1.cell? ⟨b, 2, none⟩ = some (.int .i64 k) := (hbw1.cell (p := ⟨b, 2, none⟩) BW.out).trans c2
      have hI1 : Boxed w1 (w.heap.size + 1) 48 (.pointer (some ⟨e, 0, none⟩)) := (HI.out.alloc _).kept hgu (HI.out.not_row (by decide) OWN.out)
      have hI2 := hI1.other (B' := w.heap.size) (by omega) (.slice (some ⟨g', 0, none⟩) (pre.length + 1) cap')
      have hcv1 := hv1.cell
      have hfv1 := hv1.frozen
      have HV2 : Hid (Boxed (w1.setCell ⟨w.heap.size, 0, none⟩ (.slice (some ⟨g', 0, none⟩) (pre.length + 1) cap')) w.heap.size 32 (.slice (some ⟨g', 0, none⟩) (pre.length + 1) cap')) := hv2
      have HR2 : Hid ((w1.setCell ⟨w.heap.size, 0, none⟩ (.slice (some ⟨g', 0, none⟩) (pre.length + 1) cap')).ownsRow w.heap.size 3 1 (.slice (some ⟨g', 0, none⟩) (pre.length + 1) cap') (pre.length + 1) (iV (pre.map fun x => x.1.2.1) ++ [.int .i64 k])) := hr2
      have HK2 : Hid (KeepsOthers W (w1.setCell ⟨w.heap.size, 0, none⟩ (.slice (some ⟨g', 0, none⟩) (pre.length + 1) cap'))) := hk2
      have HB2 : Hid (Below w.heap.size W (w1.setCell ⟨w.heap.size, 0, none⟩ (.slice (some ⟨g', 0, none⟩) (pre.length + 1) cap'))) := hb2
      have HI2 : Hid (Boxed (w1.setCell ⟨w.heap.size, 0, none⟩ (.slice (some ⟨g', 0, none⟩) (pre.length + 1) cap')) (w.heap.size + 1) 48 (.pointer (some ⟨e, 0, none⟩))) := hI2
      clear hv2 hr2 hk2 hb2 hI2 hI1 hbw1 hgu q1 q2 q3 q4 q5 hown' hv1
      go_wp2
      try refine ⟨hS4, ?_⟩
      refine held_one 8 rfl (by kernel_rfl) ?_
      go_wp2
      have hS5 : (w1.setCell ⟨w.heap.size, 0, none⟩ (.slice (some ⟨g', 0, none⟩) (pre.length + 1) cap')).cell? ⟨b, 2, none⟩ = some (.int .i64 k) := (World.cell?_setCell_other _ _ _ _ (fun q => by injection q with q1; have := BW.out; omega)).trans hS4
      try refine ⟨hS5, ?_⟩
      refine held_done (by kernel_rfl) ?_
      gi_wp2
      refine ⟨HK2.out.from _, fun j hj => ?_, ⟨_, HV2.out, ?_, trivial⟩, HI2.out, HB.out.trans HB2.out⟩
      · rcases hj with rfl | hj
        · exact HI2.out.trans HI.out.symm
        · exact HB2.out.block j (hR.out.lt hj)
      · have := HR2.out
        rw [iV_snoc, HK.out] at this
        simpa using this
    · go_wp2_with fail
      have hS1 : (W.alloc (.cells #[.int .i64 k] 3)).drew.cell? ⟨b, 2, none⟩ = some (.int .i64 k) := (((Below.refl W.heap.size W).alloc (Nat.le_refl _) _).cell (p := ⟨b, 2, none⟩) blt).trans c2
      try refine ⟨hS1, ?_⟩
      refine held_one 0 rfl (by kernel_rfl) ?_
      go_wp2_with fail
      have hS3 : (W.alloc (.cells #[.int .i64 k] 3)).drew.cell? ⟨b, 2, none⟩ = some (.int .i64 k) := (((Below.refl W.heap.size W).alloc (Nat.le_refl _) _).cell (p := ⟨b, 2, none⟩) blt).trans c2
      try refine ⟨hS3, ?_⟩
      refine held_one 7 rfl (by kernel_rfl) ?_
      obtain ⟨hi, hz0, hz1, hz2⟩ := HI0.out
      have hrw : (W.alloc (.cells #[.int .i64 k] 3)).drew.ownsRow w.heap.size 3 1 v pre.length (iV (pre.map fun x => x.1.2.1)) := OWN.out.alloc (.cells #[.int .i64 k] 3)
      refine wpList_append_own _ rfl _ _ 32 rfl w.heap.size 3 i0 (.int .i64 0) 1 8 Try.underlying32 hi hz0 hz1 hz2 rfl (by decide) v pre.length (iV (pre.map fun x => x.1.2.1)) rfl hrw ⟨W.heap.size, 0, none⟩ 1 1 [.int .i64 k] rfl rfl (cell_one_new _ _ _) (by simp [Value.oneCell']) (by have := HLT.out; unfold maxLen; omega) (by have := HLT.out; omega) (by have := HB.out.size; simp; omega) ?_
      intro v' w1 hown' hgrow _
      obtain ⟨g', cap', rfl⟩ := ownsRow_succ hown'
      obtain ⟨q1, q2, q3, q4, q5⟩ := hgrow
      have hgu : (W.alloc (.cells #[.int .i64 k] 3)).grownBy w1 v.ownBlock := ⟨q1, q2, q3, q4, q5⟩
      obtain ⟨hv1, hv2, hr2, hk2, hb2⟩ := HV.out.appended (by decide) OWN.out HB.out.size (Nat.le_refl _) hown' hgu
      have hbw1 : Below w.heap.size W w1 := ((Below.refl _ W).alloc HB.out.size _).grown hgu (by have := HB.out.size; simp; omega) (fun j q => by
        rcases OWN.out.2 with ⟨rfl, _⟩ | ⟨g, cap, cur, rfl, hge, hg, _⟩
        · simp [Value.ownBlock] at q
        · simp [Value.ownBlock] at q; omega)
      have hS4 : w1.cell? ⟨b, 2, none⟩ = some (.int .i64 k) := (hbw1.cell (p := ⟨b, 2, none⟩) BW.out).trans c2
      have hI1 : Boxed w1 (w.heap.size + 1) 48 (.pointer (some ⟨e, 0, none⟩)) := (HI.out.alloc _).kept hgu (HI.out.not_row (by decide) OWN.out)
      have hI2 := hI1.other (B' := w.heap.size) (by omega) (.slice (some ⟨g', 0, none⟩) (pre.length + 1) cap')
      have hcv1 := hv1.cell
      have hfv1 := hv1.frozen
      have HV2 : Hid (Boxed (w1.setCell ⟨w.heap.size, 0, none⟩ (.slice (some ⟨g', 0, none⟩) (pre.length + 1) cap')) w.heap.size 32 (.slice (some ⟨g', 0, none⟩) (pre.length + 1) cap')) := hv2
      have HR2 : Hid ((w1.setCell ⟨w.heap.size, 0, none⟩ (.slice (some ⟨g', 0, none⟩) (pre.length + 1) cap')).ownsRow w.heap.size 3 1 (.slice (some ⟨g', 0, none⟩) (pre.length + 1) cap') (pre.length + 1) (iV (pre.map fun x => x.1.2.1) ++ [.int .i64 k])) := hr2
      have HK2 : Hid (KeepsOthers W (w1.setCell ⟨w.heap.size, 0, none⟩ (.slice (some ⟨g', 0, none⟩) (pre.length + 1) cap'))) := hk2
      have HB2 : Hid (Below w.heap.size W (w1.setCell ⟨w.heap.size, 0, none⟩ (.slice (some ⟨g', 0, none⟩) (pre.length + 1) cap'))) := hb2
      have HI2 : Hid (Boxed (w1.setCell ⟨w.heap.size, 0, none⟩ (.slice (some ⟨g', 0, none⟩) (pre.length + 1) cap')) (w.heap.size + 1) 48 (.pointer (some ⟨e, 0, none⟩))) := hI2
      clear hv2 hr2 hk2 hb2 hI2 hI1 hbw1 hgu q1 q2 q3 q4 q5 hown' hv1
      go_wp2
      try refine ⟨hS4, ?_⟩
      refine held_one 8 rfl (by kernel_rfl) ?_
      go_wp2
      have hS5 : (w1.setCell ⟨w.heap.size, 0, none⟩ (.slice (some ⟨g', 0, none⟩) (pre.length + 1) cap')).cell? ⟨b, 2, none⟩ = some (.int .i64 k) := (World.cell?_setCell_other _ _ _ _ (fun q => by injection q with q1; have := BW.out; omega)).trans hS4
      try refine ⟨hS5, ?_⟩
      refine held_done (by kernel_rfl) ?_
      gi_wp2
      refine ⟨HK2.out.from _, fun j hj => ?_, ⟨_, HV2.out, ?_, trivial⟩, HI2.out, HB.out.trans HB2.out⟩
      · rcases hj with rfl | hj
        · exact HI2.out.trans HI.out.symm
        · exact HB2.out.block j (hR.out.lt hj)
      · have := HR2.out
        rw [iV_snoc, HK.out] at this
        simpa using this
  case done =>
    rintro D ys W hD hys ⟨⟨v, hv, hrow, _⟩, hI, hB⟩ hK
    have hcv := hv.cell
    have HV : Hid (Boxed W w.heap.size 32 v) := hv
    have HROW : Hid (W.ownsRow w.heap.size 3 1 v ys.length (iV (ys.map fun x => x.1.2.1))) := hrow
    have HB : Hid (Below w.heap.size w W) := hB
    have hcnt : ys.length = ns.length := by have := congrArg List.length hys; simpa using this
    have HC : Hid (ys.length = ns.length) := hcnt
    have HE : Hid ((ys.map fun x => x.1.2.1).reverse = ns.map fun x => x.2.1) := by
      show _ = _
      rw [show (ys.map fun x : In ns => x.1.2.1) = (ys.map (·.1)).map (fun x => x.2.1) from (List.map_map ..).symm ▸ rfl, hys, ← List.map_reverse, List.reverse_reverse]
    clear hv hrow hI hB hys hcnt
    gi_wp2
    refine ⟨trivial, (callsIn_wide.2 (Reverse_own HROW.out (by have := HC.out; omega))).mono ?_⟩
    rintro r W2 ⟨rfl, hr2, hg2⟩
    have hne : some w.heap.size ≠ v.ownBlock := HV.out.not_row (by decide) HROW.out
    have hv2 := HV.out.kept hg2 hne
    have hK2 : W2.heap[D]? = some (.deferred (some [])) := (hg2.block D (Array.getElem?_eq_some_iff.1 hK).1 (fun q => by
      rcases HROW.out.2 with ⟨rfl, _⟩ | ⟨g, cap, cur, rfl, _, hg, _⟩
      · simp [Value.ownBlock] at q
      · simp [Value.ownBlock] at q; subst q; rw [hK] at hg; cases hg)).trans hK
    have hb2 : Below w.heap.size W W2 := (Below.refl _ _).grown hg2 HB.out.size (fun k q => by
      rcases HROW.out.2 with ⟨rfl, _⟩ | ⟨g, cap, cur, rfl, hge, hg, _⟩
      · simp [Value.ownBlock] at q
      · simp [Value.ownBlock] at q; omega)
    rw [HE.out, HC.out] at hr2
    have hcv2 := hv2.cell
    have HR2 : Hid (W2.ownsRow w.heap.size 3 1 v ns.length (iV (ns.map fun x => x.2.1))) := hr2
    have HB2 : Hid (Below w.heap.size w W2) := HB.out.trans hb2
    clear hr2 hg2 hne hv2 hb2 hcv
    gi_wp2
    refine ⟨by simp, .inl ⟨_, _, rfl, run_takeDeferred hK2, ?_⟩⟩
    exact ⟨_, results_tmp (fn := Try.f13) rfl _ _ _, ⟨v, rfl, ownsRow_putObj HR2.out _ hK2 rfl⟩, HB2.out.trans (belowK_b (w := w) (Nat.le_refl _) W2 D _ _ (by simp at hD; omega) hK2 rfl rfl)⟩
  case stop =>
    rintro D c pre W _ _ h _
    exact h.elim
end Go.Proofs.Ytmmhfkohfijlaaa
