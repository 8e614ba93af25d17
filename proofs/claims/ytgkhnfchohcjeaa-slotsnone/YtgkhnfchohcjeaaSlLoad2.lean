/- The walk of slots' Load, where the drive lives. -/
import Derived.Test.YtgkhnfchohcjeaaMSlB
import Derived.Deep.Cut
namespace Go.Proofs.Ytgkhnfchohcjeaa
open Go.RowKit

theorem sup2_ev {l0 l1 : List Value} {s0 s1 : Su} (h0 : SupL l0 s0) (h1 : SupL l1 s1) : (l0 ++ l1)[1]? = some (.int .u64 (s0.ev : Int)) ∧ (l0 ++ l1)[11]? = some (.int .u64 (s1.ev : Int)) := by
  refine ⟨?_, ?_⟩
  · rw [List.getElem?_append_left (by rw [h0.len]; decide)]; exact h0.ev
  · rw [List.getElem?_append_right (by rw [h0.len]; decide), h0.len]; exact h1.ev
theorem range_parts {w : World} {b : Nat} {l0 l1 : List Value} (h : w.rangeAt b 0 (l0 ++ l1)) (hl : l0.length = 10) : w.rangeAt b 0 l0 ∧ w.rangeAt b 10 l1 := by
  refine ⟨fun j v hv => ?_, fun j v hv => ?_⟩
  · have hj := (List.getElem?_eq_some_iff.1 hv).1
    exact h j v (by rw [List.getElem?_append_left hj]; exact hv)
  · have := h (10 + j) v (by rw [List.getElem?_append_right (by omega), hl, show 10 + j - 10 = j by omega]; exact hv)
    rwa [Nat.zero_add] at this

theorem bools_one (b0 b1 : Bool) : (#[.bool b0, .bool b1] : Array Value).all (·.oneCell') = true := all_oneCell_toArray (by
  intro v hv
  simp only [List.mem_cons, List.not_mem_nil, or_false] at hv
  rcases hv with rfl | rfl <;> rfl)
set_option maxRecDepth 100000 in
set_option maxHeartbeats 4000000 in
theorem load_live (X : SupSays) {w : World} {p : Nat} {D : Dr} {F : Nat → Prop} (h : DriveAt w p D F) (hd : D.dead = false) :
    Calls Try.prog 10 #[.pointer (some ⟨p, 0, none⟩)] w fun e w' => e = .returned (.tuple #[.agg (supL D.loadS).toArray, .int .i64 (D.loadE : Nat)]) ∧ Below w.heap.size w w' := by
  have h0 := h.below ((Below.refl w.heap.size w).alloc (Nat.le_refl _) (.cells (supL Sup.none).toArray 30))
  have hD := dead_any h0
  rw [hd] at hD
  have hB := both_any X h0
  have hlS : D.loadS = if D.newest < 0 then Sup.none else D.slS D.newest := by unfold Dr.loadS; rw [hd]; rfl
  have hlE : D.loadE = if D.newest < 0 then 90 else 0 := by unfold Dr.loadE; rw [hd]; rfl
  obtain ⟨l0, e0, L0⟩ := sup_letter (D.slS 0)
  obtain ⟨l1, e1, L1⟩ := sup_letter (D.slS 1)
  obtain ⟨s0, es0⟩ : ∃ s, s = D.slS 0 := ⟨_, rfl⟩
  obtain ⟨s1, es1⟩ : ∃ s, s = D.slS 1 := ⟨_, rfl⟩
  obtain ⟨b0, eb0⟩ : ∃ b, b = D.slB 0 := ⟨_, rfl⟩
  obtain ⟨b1, eb1⟩ : ∃ b, b = D.slB 1 := ⟨_, rfl⟩
  obtain ⟨n, en⟩ : ∃ n, n = D.newest := ⟨_, rfl⟩
  have en2 : n = Dr.newer b0 b1 s0.ev s1.ev := by rw [en, eb0, eb1, es0, es1]; rfl
  rw [e0, e1, ← eb0, ← eb1] at hB
  rw [← es0] at L0
  rw [← es1] at L1
  have hE : D.loadE = (if n < 0 then 90 else 0) ∧ D.loadS = (if n < 0 then Sup.none else D.slS n) := by rw [hlS, hlE, en]; exact ⟨rfl, rfl⟩
  have HE : Hid (D.loadE = (if n < 0 then 90 else 0) ∧ D.loadS = (if n < 0 then Sup.none else D.slS n) ∧ supL (D.slS 0) = l0 ∧ supL (D.slS 1) = l1) := ⟨hE.1, hE.2, e0, e1⟩
  have HL0 : Hid _ := L0
  have HL1 : Hid _ := L1
  have HN : Hid (n = Dr.newer b0 b1 s0.ev s1.ev) := en2
  have T : Hid _ := there_new w (supL Sup.none).toArray 30 10 (by decide)
  obtain ⟨L, eL⟩ : ∃ L, l0 ++ l1 = L := ⟨_, rfl⟩
  have HL : Hid (l0 ++ l1 = L) := eL
  have hL20 : L.length = 20 := by rw [← eL, List.length_append, L0.len, L1.len]
  have hLone : L.toArray.all (·.oneCell') = true := by
    rw [← eL, ← e0, ← e1]
    exact all_oneCell_toArray fun v hv => by
      have a0 := Array.all_eq_true_iff_forall_mem.1 (supL_one (D.slS 0))
      have a1 := Array.all_eq_true_iff_forall_mem.1 (supL_one (D.slS 1))
      rcases List.mem_append.1 hv with h | h
      · exact a0 v (by simpa using h)
      · exact a1 v (by simpa using h)
  have HLA : Hid (L.length = 20 ∧ L.toArray.all (·.oneCell') = true ∧ L.toArray.size = 20) := ⟨hL20, hLone, hL20⟩
  rw [eL] at hB
  clear h h0 hd hlS hlE hE en en2 es0 es1 eb0 eb1 e0 e1 L0 L1 eL X hL20 hLone
  go_enter Try.func10, Try.ntmps10
  go_wp2_with fail
  refine hD.mono ?_
  rintro e w1 ⟨rfl, rfl⟩
  go_wp2_with fail
  refine hB.mono ?_
  rintro e w1 ⟨rfl, hb1⟩
  have HW1 : Hid (Below w.heap.size w w1 ∧ w1.there w.heap.size 0 10 ∧ w.heap.size < w1.heap.size) :=
    ⟨((Below.refl w.heap.size w).alloc (Nat.le_refl _) _).trans (hb1.mono (by rw [World.size_alloc]; omega)), there_below T.out (by rw [World.size_alloc]; exact Nat.lt_succ_self _) hb1, Nat.lt_of_lt_of_le (by rw [World.size_alloc]; exact Nat.lt_succ_self _) hb1.size⟩
  clear hD hB hb1 T
  have TA : Hid (∀ C E : Array Value, C.size = 20 → ((w1.alloc (.cells C 36)).alloc (.cells E 37)).there w1.heap.size 0 L.toArray.size) := fun C E hC => by rw [HLA.out.2.2]; exact World.there_alloc (there_new w1 C _ 20 (by omega)) _
  have TB : Hid (∀ C E : Array Value, C.size = 20 → E.size = 2 → (((w1.alloc (.cells C 36)).alloc (.cells E 37)).setCells w1.heap.size 0 L).there (w1.heap.size + 1) 0 2) := fun C E hC hE => World.there_setCells (both_start w1 C E _ _ hC hE).2.2.2 _ _ _
  go_upto_region 4 with (first
    | (refine wpList_store_mid rfl 36 _ _ rfl w1.heap.size 0 L.toArray rfl rfl (TA.out _ _ rfl) (info_sup2.trans (by rw [HLA.out.2.2])) HLA.out.2.1 ?_; change wpList _ _ _ _ _ (World.setCells _ _ _ L))
    | (refine wpList_store_mid rfl 37 _ _ rfl (w1.heap.size + 1) 0 #[.bool b0, .bool b1] rfl rfl (TB.out _ _ rfl rfl) info_bool2 (bools_one b0 b1) ?_; change wpList _ _ _ _ _ (World.setCells _ _ _ [.bool b0, .bool b1])))
  obtain ⟨V, hV⟩ : ∃ V, V = (((w1.alloc (.cells (supL Sup.none ++ supL Sup.none).toArray 36)).alloc (.cells #[.bool false, .bool false] 37)).setCells w1.heap.size 0 L).setCells (w1.heap.size + 1) 0 [.bool b0, .bool b1] := ⟨_, rfl⟩
  change Code.wp _ _ _ _ ((((w1.alloc (.cells (supL Sup.none ++ supL Sup.none).toArray 36)).alloc (.cells #[.bool false, .bool false] 37)).setCells w1.heap.size 0 L).setCells (w1.heap.size + 1) 0 [.bool b0, .bool b1])
  have hvb := load_base HLA.out.1 HW1.out.1 HW1.out.2.1 HW1.out.2.2 b0 b1 (supL Sup.none ++ supL Sup.none).toArray #[.bool false, .bool false] rfl rfl 36 37
  rw [← hV] at hvb ⊢
  have HVB : Hid _ := hvb
  clear hvb hV TA TB HW1 HLA
  go_wp2
  go_loopg [18] 2 (fun gg i wr => (gg = 2 ∧ i = .int .i64 0 ∧ LoadAt w wr w1.heap.size V.heap.size (-1) L b0 b1) ∨ (gg = 1 ∧ i = .int .i64 1 ∧ LoadAt w wr w1.heap.size V.heap.size (bif b0 then 0 else -1) L b0 b1) ∨ (gg = 0 ∧ i = .int .i64 2 ∧ LoadAt w wr w1.heap.size V.heap.size n L b0 b1))
  case atStart => exact .inl ⟨rfl, rfl, load_start HVB.out _ _⟩
  case round =>
    rcases hrel with ⟨rfl, rfl, hA⟩ | ⟨rfl, rfl, hA⟩ | ⟨rfl, rfl, hA⟩
    · have HA : Hid _ := hA
      have hi0 := hA.is0
      have hnow := hA.now
      have hfree := hA.free
      have hC := fun W (h : LoadAt w W w1.heap.size V.heap.size (-1) L b0 b1) => newer_yes W 0 V.heap.size w1.heap.size h.now
      clear hA
      cases b0
      case false =>
        go_wp2
        go_roundg 1
        case rel => exact .inr (.inl ⟨rfl, rfl, HA.out⟩)
        case measure => omega
      case true =>
        have hc := hC _ HA.out
        go_wp2_with fail
        refine hc.mono ?_
        rintro e w2 ⟨rfl, hb2⟩
        have hA2 := HA.out.below hb2
        have HA2 : Hid _ := hA2
        have hnow2 := hA2.now
        have hfree2 := hA2.free
        clear hA2 hb2 hC hc HA
        go_wp2
        go_roundg 1
        case rel => exact .inr (.inl ⟨rfl, rfl, HA2.out.set 0⟩)
        case measure => omega
    · cases b1
      case false =>
        have hn : n = bif b0 then 0 else -1 := by rw [HN.out]; cases b0 <;> rfl
        have HA : Hid (LoadAt w wr w1.heap.size V.heap.size n L b0 false) := by rw [hn]; exact hA
        have hi1 := hA.is1
        clear hA hn
        go_wp2
        go_roundg 0
        case rel => exact .inr (.inr ⟨rfl, rfl, HA.out⟩)
        case measure => omega
      case true =>
        cases b0
        case false =>
          have hn : 1 = n := by rw [HN.out]; rfl
          have HNN : Hid (1 = n) := hn
          have HA : Hid _ := hA
          have hi1 := hA.is1
          have hc := newer_yes wr 1 V.heap.size w1.heap.size hA.now
          clear hA hn
          go_wp2_with fail
          refine hc.mono ?_
          rintro e w2 ⟨rfl, hb2⟩
          have hA2 := HA.out.below hb2
          have HA2 : Hid _ := hA2
          have hnow2 := hA2.now
          have hfree2 := hA2.free
          clear hA2 hb2 hc HA
          go_wp2
          go_roundg 0
          case rel => exact .inr (.inr ⟨rfl, rfl, by rw [← HNN.out]; exact HA2.out.set 1⟩)
          case measure => omega
        case true =>
          have HA : Hid _ := hA
          have hi1 := hA.is1
          have hev := sup2_ev HL0.out HL1.out
          rw [HL.out] at hev
          have hc := newer_ask wr 1 0 V.heap.size w1.heap.size (by decide) (by decide) s1.ev s0.ev hA.now (range_cell hA.sup hev.2) (range_cell hA.sup hev.1)
          cases hd : decide (s0.ev < s1.ev)
          case false =>
            have hn : 0 = n := by rw [HN.out]; unfold Dr.newer; rw [hd]; rfl
            have HNN : Hid (0 = n) := hn
            rw [hd] at hc
            clear hA hn hd hev
            go_wp2_with fail
            refine hc.mono ?_
            rintro e w2 ⟨rfl, hb2⟩
            have HA2 : Hid _ := HA.out.below hb2
            clear hb2 hc HA
            go_wp2
            go_roundg 0
            case rel => exact .inr (.inr ⟨rfl, rfl, by rw [← HNN.out]; exact HA2.out⟩)
            case measure => omega
          case true =>
            have hn : 1 = n := by rw [HN.out]; unfold Dr.newer; rw [hd]; rfl
            have HNN : Hid (1 = n) := hn
            rw [hd] at hc
            clear hA hn hd hev
            go_wp2_with fail
            refine hc.mono ?_
            rintro e w2 ⟨rfl, hb2⟩
            have hA2 := HA.out.below hb2
            have HA2 : Hid _ := hA2
            have hnow2 := hA2.now
            have hfree2 := hA2.free
            clear hA2 hb2 hc HA
            go_wp2
            go_roundg 0
            case rel => exact .inr (.inr ⟨rfl, rfl, by rw [← HNN.out]; exact HA2.out.set 1⟩)
            case measure => omega
    · have hn := Dr.newer_cases b0 b1 s0.ev s1.ev
      rw [← HN.out] at hn
      have HA : Hid _ := hA
      have hnow := hA.now
      obtain ⟨r0, r1⟩ := range_parts (w := wr) (b := w1.heap.size) (l0 := l0) (l1 := l1) (by rw [HL.out]; exact hA.sup) HL0.out.len
      have R0 : Hid _ := r0
      have R1 : Hid _ := r1
      clear hA r0 r1
      rcases hn with rfl | rfl | rfl
      · have E : Hid (D.loadE = 90 ∧ D.loadS = Sup.none) := ⟨HE.out.1, HE.out.2.1⟩
        clear HE
        go_wp2_with (first
          | (refine wpList_store_mid rfl 30 _ _ rfl w.heap.size 0 (supL Sup.none).toArray rfl rfl HA.out.res info_sup (supL_one _) ?_))
        refine bodyPost_ret (results_cell_slot rfl _ _ w.heap.size 0 (supL Sup.none) _ rfl (World.rangeAt_setCells_same _ _ _ _ HA.out.res) Try.underlying30 rfl info_sup) rfl ⟨by rw [E.out.1, E.out.2]; rfl, ?_⟩
        exact HA.out.low.trans (below_setCells (Nat.le_refl _) _)
      · have E : Hid (D.loadE = 0 ∧ supL D.loadS = l0) := ⟨HE.out.1, by rw [HE.out.2.1]; exact HE.out.2.2.1⟩
        have T0 : Hid (wr.there w.heap.size 0 l0.toArray.size) := by rw [HL0.out.size]; exact HA.out.res
        clear HE
        go_wp2_with (first
          | (refine wpList_load_mid rfl 30 _ rfl w1.heap.size 0 rfl l0 _ R0.out Try.underlying30 rfl HL0.out.info ?_)
          | (refine wpList_store_mid rfl 30 _ _ rfl w.heap.size 0 l0.toArray rfl rfl T0.out HL0.out.infoA HL0.out.one ?_))
        refine bodyPost_ret (results_cell_slot rfl _ _ w.heap.size 0 l0 _ rfl (World.rangeAt_setCells_same _ _ _ _ T0.out) Try.underlying30 rfl HL0.out.info) rfl ⟨by rw [E.out.1, E.out.2]; rfl, ?_⟩
        exact HA.out.low.trans (below_setCells (Nat.le_refl _) _)
      · have E : Hid (D.loadE = 0 ∧ supL D.loadS = l1) := ⟨HE.out.1, by rw [HE.out.2.1]; exact HE.out.2.2.2⟩
        have T0 : Hid (wr.there w.heap.size 0 l1.toArray.size) := by rw [HL1.out.size]; exact HA.out.res
        clear HE
        go_wp2_with (first
          | (refine wpList_load_mid rfl 30 _ rfl w1.heap.size 10 rfl l1 _ R1.out Try.underlying30 rfl HL1.out.info ?_)
          | (refine wpList_store_mid rfl 30 _ _ rfl w.heap.size 0 l1.toArray rfl rfl T0.out HL1.out.infoA HL1.out.one ?_))
        refine bodyPost_ret (results_cell_slot rfl _ _ w.heap.size 0 l1 _ rfl (World.rangeAt_setCells_same _ _ _ _ T0.out) Try.underlying30 rfl HL1.out.info) rfl ⟨by rw [E.out.1, E.out.2]; rfl, ?_⟩
        exact HA.out.low.trans (below_setCells (Nat.le_refl _) _)
theorem load_any (X : SupSays) {w : World} {p : Nat} {D : Dr} {F : Nat → Prop} (h : DriveAt w p D F) :
    Calls Try.prog 10 #[.pointer (some ⟨p, 0, none⟩)] w fun e w' => e = .returned (.tuple #[.agg (supL D.loadS).toArray, .int .i64 (D.loadE : Nat)]) ∧ Below w.heap.size w w' := by
  cases hd : D.dead
  case false => exact load_live X h hd
  case true =>
    have e1 : D.loadE = 40 := by unfold Dr.loadE; rw [if_pos hd]
    have e2 : D.loadS = Sup.none := by unfold Dr.loadS; rw [if_pos hd]
    rw [e1, e2]
    exact load_dead h hd
end Go.Proofs.Ytgkhnfchohcjeaa
