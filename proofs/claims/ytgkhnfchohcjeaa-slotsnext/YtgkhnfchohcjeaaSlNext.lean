/- The walk of slots' Next. -/
import Derived.Test.YtgkhnfchohcjeaaSlSave
import Derived.Test.YtgkhnfchohcjeaaSlLoad2
namespace Go.Proofs.Ytgkhnfchohcjeaa
open Go.RowKit

theorem range_only {w w' : World} {G : Nat → Prop} {b o : Nat} {l : List Value} (h : w.rangeAt b o l) (hlt : b < w.heap.size) (hg : Only G w w') (hn : ¬ G b) : w'.rangeAt b o l := fun j v hv =>
  (World.cell?_of_block (a := ⟨b, o + j, none⟩) (hg.block b hlt hn)).trans (h j v hv)
theorem there_only {w w' : World} {G : Nat → Prop} {b o n : Nat} (h : w.there b o n) (hlt : b < w.heap.size) (hg : Only G w w') (hn : ¬ G b) : w'.there b o n := fun j hj =>
  ⟨by rw [World.cell?_of_block (a := ⟨b, o + j, none⟩) (hg.block b hlt hn)]; exact (h j hj).1, by rw [World.frozen?_of_block (a := ⟨b, o + j, none⟩) (hg.block b hlt hn)]; exact (h j hj).2⟩
theorem range_set {w : World} {b : Nat} {l : List Value} (h : w.rangeAt b 0 l) {i : Nat} {v u : Value} (hu : l[i]? = some u) : (w.setCell ⟨b, i, none⟩ v).rangeAt b 0 (l.set i v) := fun j x hx => by
  have hi := (List.getElem?_eq_some_iff.1 hu).1
  rw [Nat.zero_add]
  by_cases e : i = j
  · subst e
    rw [List.getElem?_set_self hi] at hx
    cases hx
    exact World.cell?_setCell_same _ _ _ (by have := h i u hu; rwa [Nat.zero_add] at this)
  · rw [List.getElem?_set_ne e] at hx
    rw [World.cell?_setCell_other _ _ _ _ (fun q => by injection q with _ q2; omega)]
    have := h j x hx
    rwa [Nat.zero_add] at this
theorem there_set {w : World} {b o n : Nat} (h : w.there b o n) (a : Addr) (v : Value) : (w.setCell a v).there b o n := fun j hj => by
  refine ⟨?_, by rw [World.frozen?_setCell]; exact (h j hj).2⟩
  by_cases e : a = ⟨b, o + j, none⟩
  · obtain ⟨u, hu⟩ := Option.isSome_iff_exists.1 (h j hj).1
    rw [← e, World.cell?_setCell_same _ _ _ (by rw [e]; exact hu)]; rfl
  · rw [World.cell?_setCell_other _ _ _ _ e]; exact (h j hj).1
theorem supL_set (s : Su) (x : Nat) : (supL s).set 1 (.int .u64 (x : Int)) = supL { s with ev := x } := rfl

/-- what Next holds when it has loaded -/
structure NextAt (w V : World) (B : Nat) (l : List Value) (x : Nat) : Prop where
  low : Below w.heap.size w V
  arg : V.rangeAt w.heap.size 0 l
  argT : V.there w.heap.size 0 10
  res : V.there (w.heap.size + 1) 0 10
  last : V.cell? ⟨B, 1, none⟩ = some (.int .u64 (x : Int))
  lt : w.heap.size + 2 ≤ B
  size : B < V.heap.size
theorem next_at {w w1 : World} {l m : List Value} {x : Nat} {t : TypeId} (hl : l.length = 10) (hm : m.length = 10) (hx : m[1]? = some (.int .u64 (x : Int))) (C E : Array Value) (hC : C.size = 10) (hE : E.size = 10) (hb : Below ((w.alloc (.cells l.toArray t)).alloc (.cells C t)).heap.size ((w.alloc (.cells l.toArray t)).alloc (.cells C t)) w1) :
    NextAt w ((w1.alloc (.cells E t)).setCells w1.heap.size 0 m) w1.heap.size l x := by
  have e1 : (w.alloc (.cells l.toArray t)).heap.size = w.heap.size + 1 := World.size_alloc ..
  have e2 : ((w.alloc (.cells l.toArray t)).alloc (.cells C t)).heap.size = w.heap.size + 2 := by rw [World.size_alloc, e1]
  have hs := hb.size
  rw [e2] at hs
  have low1 : Below w.heap.size w ((w.alloc (.cells l.toArray t)).alloc (.cells C t)) := ((Below.refl _ w).alloc (Nat.le_refl _) _).alloc (by omega) _
  have low2 : Below w.heap.size w w1 := low1.trans (hb.mono (by omega))
  have r1 := range_below (World.rangeAt_alloc (range_new w t l) (.cells C t)) (by omega) hb
  have t1 := there_below (World.there_alloc (there_new w l.toArray t 10 (by simp [hl])) (.cells C t)) (by omega) hb
  have t2 := there_below (by have := there_new (w.alloc (.cells l.toArray t)) C t 10 (by omega); rwa [e1] at this) (by omega) hb
  have t3 := there_new w1 E t 10 (by omega)
  have e3 : (w1.alloc (.cells E t)).heap.size = w1.heap.size + 1 := World.size_alloc ..
  refine ⟨(low2.alloc (by omega) _).trans (below_setCells (by omega) _), World.rangeAt_setCells_apart (World.rangeAt_alloc r1 _) _ _ _ (.inl (by omega)), World.there_setCells (World.there_alloc t1 _) _ _ _, World.there_setCells (World.there_alloc t2 _) _ _ _, ?_, hs, by rw [size_setCells, e3]; exact Nat.lt_succ_self _⟩
  have := World.rangeAt_setCells_same (w1.alloc (.cells E t)) w1.heap.size 0 m (by rw [hm]; exact t3) 1 _ hx
  rwa [Nat.zero_add] at this

theorem next_set {w V : World} {B x : Nat} {l : List Value} (h : NextAt w V B l x) {u : Value} (hu : l[1]? = some u) (v : Value) :
    (V.setCell ⟨w.heap.size, 1, none⟩ v).rangeAt w.heap.size 0 (l.set 1 v) ∧ (V.setCell ⟨w.heap.size, 1, none⟩ v).there (w.heap.size + 1) 0 10 ∧ Below w.heap.size w (V.setCell ⟨w.heap.size, 1, none⟩ v) ∧ w.heap.size + 2 ≤ (V.setCell ⟨w.heap.size, 1, none⟩ v).heap.size :=
  ⟨range_set h.arg hu, there_set h.res _ _, h.low.setCell (p := ⟨w.heap.size, 1, none⟩) (Nat.le_refl _) _, by rw [World.size_setCell]; have := h.lt; have := h.size; omega⟩
theorem next_sets {w V : World} {B x : Nat} {l : List Value} (h : NextAt w V B l x) {u : Value} (hu : l[1]? = some u) (v0 v : Value) :
    ((V.setCell ⟨w.heap.size, 1, none⟩ v0).setCell ⟨w.heap.size, 1, none⟩ v).rangeAt w.heap.size 0 (l.set 1 v) ∧ ((V.setCell ⟨w.heap.size, 1, none⟩ v0).setCell ⟨w.heap.size, 1, none⟩ v).there (w.heap.size + 1) 0 10 ∧ Below w.heap.size w ((V.setCell ⟨w.heap.size, 1, none⟩ v0).setCell ⟨w.heap.size, 1, none⟩ v) ∧ w.heap.size + 2 ≤ ((V.setCell ⟨w.heap.size, 1, none⟩ v0).setCell ⟨w.heap.size, 1, none⟩ v).heap.size := by
  obtain ⟨h1, h2, h3, h4⟩ := next_set h hu v0
  have hi := (List.getElem?_eq_some_iff.1 hu).1
  have := range_set h1 (List.getElem?_set_self hi) (v := v)
  rw [List.set_set] at this
  exact ⟨this, there_set h2 _ _, h3.setCell (p := ⟨w.heap.size, 1, none⟩) (Nat.le_refl _) _, by rw [World.size_setCell]; exact h4⟩
theorem next_done {w U w6 : World} {p : Nat} {D D2 : Dr} {F : Nat → Prop} (hd : DriveAt w6 p D2 (Plus (fun k => F k ∧ k < w.heap.size) U.heap.size)) (ho : Only (fun k => F k ∧ k < w.heap.size) U w6) (hb : Below w.heap.size w U) (hs : w.heap.size + 2 ≤ U.heap.size) (vs : List Value) :
    SavedAt w (w6.setCells (w.heap.size + 1) 0 vs) p D D2 F := by
  have o : Only (One (w.heap.size + 1)) w6 (w6.setCells (w.heap.size + 1) 0 vs) := Only.setCells _ w6 _ 0 vs rfl
  refine ⟨(hd.only o fun k _ hk e => ?_).mono fun k hk => ?_, ?_⟩
  · have e' : k = w.heap.size + 1 := e
    rcases hk with h1 | h1
    · have := h1.2; omega
    · omega
  · rcases hk with h1 | h1
    · exact .inl h1.1
    · exact .inr (by omega)
  · refine ((Only.of_below hb F).then (ho.mono fun k hk => hk.1)).trans ?_
    exact Only.setCells _ w6 _ 0 vs (.inr (Nat.le_succ _))

set_option maxRecDepth 100000 in
set_option maxHeartbeats 2000000 in
theorem next_yes (X : SupSays) {w : World} {p : Nat} {D : Dr} {F : Nat → Prop} (h : DriveAt w p D F) (s : Su) (hI : s.uu < 18446744073709551616 ∧ s.ev < 18446744073709551616 ∧ s.c ≤ 9223372036854775807 ∧ s.nw ≤ 9223372036854775807) (h2 : 2 ≤ D.safe.length) (hlen : ∀ i, (D.writes i).length < 1000000) (hL : D.loadE = 0) :
    Calls Try.prog 8 #[.pointer (some ⟨p, 0, none⟩), .agg (supL s).toArray] w fun e w' => e = .returned (.tuple #[.agg (supL (D.nextS s)).toArray, .int .i64 (D.saveE (D.bump s) : Nat)]) ∧ SavedAt w w' p D (D.saveD (D.bump s)) F := by
  have hb0 : Below w.heap.size w ((w.alloc (.cells (supL s).toArray 30)).alloc (.cells (supL Sup.none).toArray 30)) := ((Below.refl _ w).alloc (Nat.le_refl _) _).alloc (by rw [World.size_alloc]; omega) _
  have hLd := load_any X (h.tight.below hb0)
  have hbump : D.bump s = { s with ev := (D.loadS.ev + 1) % 18446744073709551616 } := by unfold Dr.bump; rw [if_pos hL]
  obtain ⟨y, ey⟩ : ∃ y, y = (D.loadS.ev + 1) % 18446744073709551616 := ⟨_, rfl⟩
  obtain ⟨x, ex⟩ : ∃ x, x = D.loadS.ev := ⟨_, rfl⟩
  rw [← ey] at hbump
  rw [← ex] at ey
  have hy : IntKind.u64.wrap ((x : Int) + 1) = (y : Int) := by rw [IntKind.wrap_u64]; omega
  have hyl : y < 18446744073709551616 := by rw [ey]; exact Nat.mod_lt _ (by decide)
  obtain ⟨z, ez⟩ : ∃ z, z = D.bump s := ⟨_, rfl⟩
  have hnext : D.nextS s = if D.saveE z = 0 then z else Sup.none := by unfold Dr.nextS; rw [ez]
  have hzI : z.uu < 18446744073709551616 ∧ z.ev < 18446744073709551616 ∧ z.c ≤ 9223372036854775807 ∧ z.nw ≤ 9223372036854775807 := by rw [ez, hbump]; exact ⟨hI.1, hyl, hI.2.2.1, hI.2.2.2⟩
  have hzL : supL z = (supL s).set 1 (.int .u64 (y : Int)) := by rw [ez, hbump, supL_set]
  have hSv := fun (W : World) (G : Nat → Prop) (h : DriveAt W p D G) => save_any X h z hzI h2 hlen
  rw [← ez]
  obtain ⟨m, em, M⟩ := sup_letter D.loadS
  obtain ⟨l, el, L⟩ := sup_letter s
  obtain ⟨q, eq, Q⟩ := sup_letter z
  rw [em] at hLd
  rw [el] at hLd ⊢
  rw [eq] at hSv
  rw [eq, el] at hzL
  obtain ⟨r, er⟩ : ∃ r, r = D.saveE z := ⟨_, rfl⟩
  rw [← er] at hSv hnext ⊢
  obtain ⟨D2, eD⟩ : ∃ D2, D2 = D.saveD z := ⟨_, rfl⟩
  rw [← eD] at hSv ⊢
  rw [hL] at hLd
  have HME : Hid (m[1]? = some (.int .u64 (x : Int))) := by rw [ex]; exact M.ev
  have HLE : Hid (l[1]? = some (.int .u64 (s.ev : Int))) := L.ev
  have H : Hid (DriveAt w p D (fun k => F k ∧ k < w.heap.size)) := h.tight
  have HM : Hid _ := M
  have HL : Hid _ := L
  have HQ : Hid _ := Q
  have HS : Hid _ := hSv
  have HN : Hid (D.nextS s = if r = 0 then z else Sup.none) := hnext
  have HE : Hid (supL z = q ∧ q = l.set 1 (.int .u64 (y : Int))) := ⟨eq, hzL⟩
  have hxl : (x : Int) < 18446744073709551616 := by rw [ex]; have e0 := Dr.loadS_lt D; omega
  clear hb0 hL h M L Q hSv hnext eq hzL el em er eD ez hzI hbump hI h2 hlen X ey ex hyl
  go_enter Try.func8, Try.ntmps8
  go_wp2_with fail
  refine hLd.mono ?_
  rintro e w1 ⟨rfl, hb1⟩
  have TA : Hid (∀ C : Array Value, C.size = 10 → (w1.alloc (.cells C 30)).there w1.heap.size 0 m.toArray.size) := fun C hC => by rw [HM.out.size]; exact there_new w1 C _ 10 (by omega)
  go_upto_region 2 with (first
    | (refine wpList_store_mid rfl 30 _ _ rfl w1.heap.size 0 m.toArray rfl rfl (TA.out _ rfl) HM.out.infoA HM.out.one ?_; change wpList _ _ _ _ _ (World.setCells _ _ _ m)))
  obtain ⟨V, hV⟩ : ∃ V, V = (w1.alloc (.cells (supL Sup.none).toArray 30)).setCells w1.heap.size 0 m := ⟨_, rfl⟩
  change Code.wp _ _ _ _ ((w1.alloc (.cells (supL Sup.none).toArray 30)).setCells w1.heap.size 0 m)
  have hv := next_at HL.out.len HM.out.len HME.out (supL Sup.none).toArray (supL Sup.none).toArray rfl rfl hb1
  rw [← hV] at hv ⊢
  have hlast := hv.last
  have harg := range_cell hv.arg HLE.out
  rw [Nat.zero_add] at harg
  have hfree := (hv.argT 1 (by decide)).2
  rw [Nat.zero_add] at hfree
  obtain ⟨B, hB⟩ : ∃ B, B = w1.heap.size := ⟨_, rfl⟩
  rw [← hB] at hv hlast ⊢
  have HVB : Hid (NextAt w V B l x) := hv
  clear hv hV TA hLd hb1 hB
  go_upto_region 5 with fail
  obtain ⟨U, hU⟩ : ∃ U, U = (V.setCell ⟨w.heap.size, 1, none⟩ (.int .u64 (x : Int))).setCell ⟨w.heap.size, 1, none⟩ (.int .u64 (y : Int)) := ⟨_, rfl⟩
  rw [← hU]
  have hru : U.rangeAt w.heap.size 0 q ∧ U.there (w.heap.size + 1) 0 10 ∧ Below w.heap.size w U ∧ w.heap.size + 2 ≤ U.heap.size := by
    rw [hU, HE.out.2]
    exact next_sets HVB.out HLE.out _ _
  have HU : Hid _ := hru
  have RU : Hid _ := hru.1
  have hs := HS.out U _ (H.out.below hru.2.2.1)
  clear hru hU harg hfree hlast
  go_wp2_with (first
    | (refine wpList_load_mid rfl 30 _ rfl w.heap.size 0 rfl q _ RU.out Try.underlying30 rfl HQ.out.info ?_))
  refine hs.mono ?_
  rintro e w6 ⟨rfl, hd6, ho6⟩
  have R6 : Hid _ := range_only HU.out.1 (by have := HU.out.2.2.2; omega) ho6 (fun hk => absurd hk.2 (Nat.lt_irrefl _))
  have T6 : Hid _ := there_only HU.out.2.1 (by have := HU.out.2.2.2; omega) ho6 (fun hk => absurd hk.2 (by omega))
  have HD : Hid (∀ vs, SavedAt w (w6.setCells (w.heap.size + 1) 0 vs) p D D2 F) := fun vs => next_done hd6 ho6 HU.out.2.2.1 HU.out.2.2.2 vs
  clear hs hd6 ho6
  by_cases hr : r = 0
  · have HZ : Hid (D.nextS s = z) := HN.out.trans (if_pos hr)
    clear HN
    subst hr
    have T6q : Hid (w6.there (w.heap.size + 1) 0 q.toArray.size) := by rw [HQ.out.size]; exact T6.out
    go_wp2_with (first
      | (refine wpList_load_mid rfl 30 _ rfl w.heap.size 0 rfl q _ R6.out Try.underlying30 rfl HQ.out.info ?_)
      | (refine wpList_store_mid rfl 30 _ _ rfl (w.heap.size + 1) 0 q.toArray rfl rfl T6q.out HQ.out.infoA HQ.out.one ?_))
    refine bodyPost_ret (results_cell_slot rfl _ _ (w.heap.size + 1) 0 q _ rfl (World.rangeAt_setCells_same _ _ _ _ T6q.out) Try.underlying30 rfl HQ.out.info) rfl ⟨?_, HD.out _⟩
    rw [HZ.out, HE.out.1]; rfl
  · have hne : ((r : Int) != 0) = true := by simp only [bne_iff_ne, ne_eq]; omega
    have HZ : Hid (D.nextS s = Sup.none) := HN.out.trans (if_neg hr)
    clear hr HN
    go_wp2_with (first
      | (refine wpList_store_mid rfl 30 _ _ rfl (w.heap.size + 1) 0 (supL Sup.none).toArray rfl rfl T6.out info_sup (supL_one _) ?_))
    refine bodyPost_ret (results_cell_slot rfl _ _ (w.heap.size + 1) 0 (supL Sup.none) _ rfl (World.rangeAt_setCells_same _ _ _ _ T6.out) Try.underlying30 rfl info_sup) rfl ⟨?_, HD.out _⟩
    rw [HZ.out]; rfl
set_option maxRecDepth 100000 in
set_option maxHeartbeats 2000000 in
theorem next_no (X : SupSays) {w : World} {p : Nat} {D : Dr} {F : Nat → Prop} (h : DriveAt w p D F) (s : Su) (hI : s.uu < 18446744073709551616 ∧ s.ev < 18446744073709551616 ∧ s.c ≤ 9223372036854775807 ∧ s.nw ≤ 9223372036854775807) (h2 : 2 ≤ D.safe.length) (hlen : ∀ i, (D.writes i).length < 1000000) (hL : D.loadE ≠ 0) :
    Calls Try.prog 8 #[.pointer (some ⟨p, 0, none⟩), .agg (supL s).toArray] w fun e w' => e = .returned (.tuple #[.agg (supL (D.nextS s)).toArray, .int .i64 (D.saveE (D.bump s) : Nat)]) ∧ SavedAt w w' p D (D.saveD (D.bump s)) F := by
  have hb0 : Below w.heap.size w ((w.alloc (.cells (supL s).toArray 30)).alloc (.cells (supL Sup.none).toArray 30)) := ((Below.refl _ w).alloc (Nat.le_refl _) _).alloc (by rw [World.size_alloc]; omega) _
  have hLd := load_any X (h.tight.below hb0)
  have hbump : D.bump s = { s with ev := (s.ev + 1) % 18446744073709551616 } := by unfold Dr.bump; rw [if_neg hL]
  obtain ⟨y, ey⟩ : ∃ y, y = (s.ev + 1) % 18446744073709551616 := ⟨_, rfl⟩
  obtain ⟨x, ex⟩ : ∃ x, x = s.ev := ⟨_, rfl⟩
  rw [← ey] at hbump
  rw [← ex] at ey
  have hy : IntKind.u64.wrap ((x : Int) + 1) = (y : Int) := by rw [IntKind.wrap_u64]; omega
  have hyl : y < 18446744073709551616 := by rw [ey]; exact Nat.mod_lt _ (by decide)
  obtain ⟨z, ez⟩ : ∃ z, z = D.bump s := ⟨_, rfl⟩
  have hnext : D.nextS s = if D.saveE z = 0 then z else Sup.none := by unfold Dr.nextS; rw [ez]
  have hzI : z.uu < 18446744073709551616 ∧ z.ev < 18446744073709551616 ∧ z.c ≤ 9223372036854775807 ∧ z.nw ≤ 9223372036854775807 := by rw [ez, hbump]; exact ⟨hI.1, hyl, hI.2.2.1, hI.2.2.2⟩
  have hzL : supL z = (supL s).set 1 (.int .u64 (y : Int)) := by rw [ez, hbump, supL_set]
  have hSv := fun (W : World) (G : Nat → Prop) (h : DriveAt W p D G) => save_any X h z hzI h2 hlen
  rw [← ez]
  obtain ⟨m, em, M⟩ := sup_letter D.loadS
  obtain ⟨l, el, L⟩ := sup_letter s
  obtain ⟨q, eq, Q⟩ := sup_letter z
  rw [em] at hLd
  rw [el] at hLd ⊢
  rw [eq] at hSv
  rw [eq, el] at hzL
  obtain ⟨r, er⟩ : ∃ r, r = D.saveE z := ⟨_, rfl⟩
  rw [← er] at hSv hnext ⊢
  obtain ⟨D2, eD⟩ : ∃ D2, D2 = D.saveD z := ⟨_, rfl⟩
  rw [← eD] at hSv ⊢
  obtain ⟨g, eg⟩ : ∃ g, g = D.loadE := ⟨_, rfl⟩
  rw [← eg] at hLd hL
  have hg : ((g : Int) == 0) = false := by rw [beq_eq_false_iff_ne]; omega
  obtain ⟨x2, ex2⟩ : ∃ x2, x2 = D.loadS.ev := ⟨_, rfl⟩
  have HME : Hid (m[1]? = some (.int .u64 (x2 : Int))) := by rw [ex2]; exact M.ev
  have HLE : Hid (l[1]? = some (.int .u64 (x : Int))) := by rw [ex]; exact L.ev
  have H : Hid (DriveAt w p D (fun k => F k ∧ k < w.heap.size)) := h.tight
  have HM : Hid _ := M
  have HL : Hid _ := L
  have HQ : Hid _ := Q
  have HS : Hid _ := hSv
  have HN : Hid (D.nextS s = if r = 0 then z else Sup.none) := hnext
  have HE : Hid (supL z = q ∧ q = l.set 1 (.int .u64 (y : Int))) := ⟨eq, hzL⟩
  have hxl : (x : Int) < 18446744073709551616 := by rw [ex]; have := hI.2.1; omega
  clear hb0 hL h M L Q hSv hnext eq hzL el em er eD ez hzI hbump hI h2 hlen X eg ex2 ey ex hyl
  go_enter Try.func8, Try.ntmps8
  go_wp2_with fail
  refine hLd.mono ?_
  rintro e w1 ⟨rfl, hb1⟩
  have TA : Hid (∀ C : Array Value, C.size = 10 → (w1.alloc (.cells C 30)).there w1.heap.size 0 m.toArray.size) := fun C hC => by rw [HM.out.size]; exact there_new w1 C _ 10 (by omega)
  go_upto_region 2 with (first
    | (refine wpList_store_mid rfl 30 _ _ rfl w1.heap.size 0 m.toArray rfl rfl (TA.out _ rfl) HM.out.infoA HM.out.one ?_; change wpList _ _ _ _ _ (World.setCells _ _ _ m)))
  obtain ⟨V, hV⟩ : ∃ V, V = (w1.alloc (.cells (supL Sup.none).toArray 30)).setCells w1.heap.size 0 m := ⟨_, rfl⟩
  change Code.wp _ _ _ _ ((w1.alloc (.cells (supL Sup.none).toArray 30)).setCells w1.heap.size 0 m)
  have hv := next_at HL.out.len HM.out.len HME.out (supL Sup.none).toArray (supL Sup.none).toArray rfl rfl hb1
  rw [← hV] at hv ⊢
  have hlast := hv.last
  have harg := range_cell hv.arg HLE.out
  rw [Nat.zero_add] at harg
  have hfree := (hv.argT 1 (by decide)).2
  rw [Nat.zero_add] at hfree
  obtain ⟨B, hB⟩ : ∃ B, B = w1.heap.size := ⟨_, rfl⟩
  rw [← hB] at hv hlast ⊢
  have HVB : Hid (NextAt w V B l x2) := hv
  clear hv hV TA hLd hb1 hB
  go_upto_region 5 with fail
  obtain ⟨U, hU⟩ : ∃ U, U = V.setCell ⟨w.heap.size, 1, none⟩ (.int .u64 (y : Int)) := ⟨_, rfl⟩
  rw [← hU]
  have hru : U.rangeAt w.heap.size 0 q ∧ U.there (w.heap.size + 1) 0 10 ∧ Below w.heap.size w U ∧ w.heap.size + 2 ≤ U.heap.size := by
    rw [hU, HE.out.2]
    exact next_set HVB.out HLE.out _
  have HU : Hid _ := hru
  have RU : Hid _ := hru.1
  have hs := HS.out U _ (H.out.below hru.2.2.1)
  clear hru hU harg hfree hlast
  go_wp2_with (first
    | (refine wpList_load_mid rfl 30 _ rfl w.heap.size 0 rfl q _ RU.out Try.underlying30 rfl HQ.out.info ?_))
  refine hs.mono ?_
  rintro e w6 ⟨rfl, hd6, ho6⟩
  have R6 : Hid _ := range_only HU.out.1 (by have := HU.out.2.2.2; omega) ho6 (fun hk => absurd hk.2 (Nat.lt_irrefl _))
  have T6 : Hid _ := there_only HU.out.2.1 (by have := HU.out.2.2.2; omega) ho6 (fun hk => absurd hk.2 (by omega))
  have HD : Hid (∀ vs, SavedAt w (w6.setCells (w.heap.size + 1) 0 vs) p D D2 F) := fun vs => next_done hd6 ho6 HU.out.2.2.1 HU.out.2.2.2 vs
  clear hs hd6 ho6
  by_cases hr : r = 0
  · have HZ : Hid (D.nextS s = z) := HN.out.trans (if_pos hr)
    clear HN
    subst hr
    have T6q : Hid (w6.there (w.heap.size + 1) 0 q.toArray.size) := by rw [HQ.out.size]; exact T6.out
    go_wp2_with (first
      | (refine wpList_load_mid rfl 30 _ rfl w.heap.size 0 rfl q _ R6.out Try.underlying30 rfl HQ.out.info ?_)
      | (refine wpList_store_mid rfl 30 _ _ rfl (w.heap.size + 1) 0 q.toArray rfl rfl T6q.out HQ.out.infoA HQ.out.one ?_))
    refine bodyPost_ret (results_cell_slot rfl _ _ (w.heap.size + 1) 0 q _ rfl (World.rangeAt_setCells_same _ _ _ _ T6q.out) Try.underlying30 rfl HQ.out.info) rfl ⟨?_, HD.out _⟩
    rw [HZ.out, HE.out.1]; rfl
  · have hne : ((r : Int) != 0) = true := by simp only [bne_iff_ne, ne_eq]; omega
    have HZ : Hid (D.nextS s = Sup.none) := HN.out.trans (if_neg hr)
    clear hr HN
    go_wp2_with (first
      | (refine wpList_store_mid rfl 30 _ _ rfl (w.heap.size + 1) 0 (supL Sup.none).toArray rfl rfl T6.out info_sup (supL_one _) ?_))
    refine bodyPost_ret (results_cell_slot rfl _ _ (w.heap.size + 1) 0 (supL Sup.none) _ rfl (World.rangeAt_setCells_same _ _ _ _ T6.out) Try.underlying30 rfl info_sup) rfl ⟨?_, HD.out _⟩
    rw [HZ.out]; rfl
theorem next_any (X : SupSays) {w : World} {p : Nat} {D : Dr} {F : Nat → Prop} (h : DriveAt w p D F) (s : Su) (hI : s.uu < 18446744073709551616 ∧ s.ev < 18446744073709551616 ∧ s.c ≤ 9223372036854775807 ∧ s.nw ≤ 9223372036854775807) (h2 : 2 ≤ D.safe.length) (hlen : ∀ i, (D.writes i).length < 1000000) :
    Calls Try.prog 8 #[.pointer (some ⟨p, 0, none⟩), .agg (supL s).toArray] w fun e w' => e = .returned (.tuple #[.agg (supL (D.nextS s)).toArray, .int .i64 (D.saveE (D.bump s) : Nat)]) ∧ SavedAt w w' p D (D.saveD (D.bump s)) F := by
  by_cases hL : D.loadE = 0
  · exact next_yes X h s hI h2 hlen hL
  · exact next_no X h s hI h2 hlen hL
end Go.Proofs.Ytgkhnfchohcjeaa
