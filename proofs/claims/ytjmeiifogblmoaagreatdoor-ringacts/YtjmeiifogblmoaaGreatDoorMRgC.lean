/- Several texts in one. The walk of the program's own Trim of a journal. The walk of the program's own Append of a journal. The walk of the program's own Format of a journal. What is asked of the program's own package ring: it keeps it. -/
import Derived.Test.YtjmeiifogblmoaaGreatDoorMRgD
import Derived.Test.YtjmeiifogblmoaaGreatDoorMRgB
import Derived.Test.YtjmeiifogblmoaaGreatDoorMR13
namespace Go.Proofs.YtjmeiifogblmoaaGreatDoor
open Go.RowKit

theorem text_new (w : World) (s : ByteArray) (t : TypeId) : RowS (w.alloc (.cells #[.string s] t)) (some ⟨w.heap.size, 0, none⟩) 1 (fun _ => s) := RowS.new w 1 (fun _ => s) _ t rfl
section
variable {w : World} {rp dp t c : Nat} {D : Dr} {F H : Nat → Prop}
theorem GRing.trimmed {w : World} {rp dp t c q c2 : Nat} (h : GRing w rp dp t c) : GRing ((w.setCell ⟨rp, 1, none⟩ (.int .u64 (q : Int))).setCell ⟨rp, 2, none⟩ (.int .u64 (c2 : Int))) rp dp q c2 := by
  unfold GRing at h ⊢
  have h1 : (w.setCell ⟨rp, 1, none⟩ (.int .u64 (q : Int))).heap[rp]? = some (.cells #[.pointer (some ⟨dp, 0, none⟩), .int .u64 (q : Int), .int .u64 (c : Int)] 90 (0, 0)) := heap_setCell_same w rp 1 _ _ _ h
  exact heap_setCell_same _ rp 2 _ _ _ h1
def flushV (dp : Nat) : Value := .func (.func 39) #[.pointer (some ⟨dp, 0, none⟩)] #[]
/-- a mark that is written, and a flush -/
theorem two_steps {w W : World} {rp dp t c b q g : Nat} {D : Dr} {F : Nat → Prop} {s : ByteArray} (ty : TypeId) (h : DriveAt w dp D F) (hlow : ∀ k, F k → k < w.heap.size) (hr : GRing w rp dp t c) (hk : ¬ F rp) (hf : D.Few 900000) (hs : s.size = 64) (hq : q ≤ 100000) (hb : Below w.heap.size w W)
    (hc : CloAt W b rp q (some ⟨g, 0, none⟩) 1 1) (hrow : RowS W (some ⟨g, 0, none⟩) 1 (fun _ => s)) (hb1 : w.heap.size ≤ b) (hg1 : w.heap.size ≤ g) :
    Calls Tryz.prog 45 #[.slice (some ⟨W.heap.size, 0, none⟩) 2 2] (W.alloc (.cells #[cloV b, flushV dp] ty)) fun e w' => e = .returned (.int .i64 ((Dr.fl1 (Dr.wr1 (0, D) q s.data.toList)).1 : Nat)) ∧ PEnd w w' dp (Dr.fl1 (Dr.wr1 (0, D) q s.data.toList)).2 F := by
  have ha : Below W.heap.size W (W.alloc (.cells #[cloV b, flushV dp] ty)) := (Below.refl _ W).alloc (Nat.le_refl _) _
  have hB : Below w.heap.size w (W.alloc (.cells #[cloV b, flushV dp] ty)) := below2 hb ha
  have hsz := hb.size
  have hbl := hc.lt
  obtain ⟨bb, o, e0, hcell⟩ := hrow 0 (by decide)
  have e1 : g = bb := by injection e0 with e0; injection e0
  have hgl : g < W.heap.size := by rw [e1]; exact World.block_lt_of_cell? W _ hcell
  have hn := heap_alloc_new W (.cells #[cloV b, flushV dp] ty)
  have hcalls := dsteps_any (n := 2) (cap := 2) (a := some ⟨W.heap.size, 0, none⟩) (fun j => match j with | 0 => Stp.wr b q 1 1 (some ⟨g, 0, none⟩) (fun _ => s) | _ => Stp.fl) (h.below hB) (hr.below hB) hk hf (by decide) (fun j hj => ?_) (fun j hj => ?_)
  · refine hcalls.mono ?_
    rintro e w' ⟨he, hp⟩
    exact ⟨he, (PEnd.refl h).below hB |>.trans (by
      have h2 : PEnd (W.alloc (.cells #[cloV b, flushV dp] ty)) w' dp (Dr.fl1 (Dr.wr1 (0, D) q s.data.toList)).2 F := hp
      exact ⟨h2.1.mono fun k hk => hk.elim (fun x => .inl (.inl x)) .inr, h2.2.mono fun k hk => .inl hk⟩)⟩
  · match j with
    | 0 => exact ⟨hc.below ha, hrow.below ha, fun _ _ => hs, by decide, hq, fun e => by have := hlow _ e; omega, fun e => by have := hlow _ e; omega, fun e => by have := hlow _ e; omega, fun x hx => by cases hx; exact ⟨fun e => by have := hlow _ e; dsimp only at this; omega, Nat.lt_of_lt_of_le hgl ha.size⟩⟩
    | j + 1 => trivial
  · refine ⟨W.heap.size, 0, rfl, ?_, fun e => by have := hlow _ e; omega⟩
    match j, hj with
    | 0, _ => rw [cell_of_row _ W.heap.size (0 + 0) _ _ _ hn]; rfl
    | 1, _ => rw [cell_of_row _ W.heap.size (0 + 1) _ _ _ hn]; rfl
set_option maxRecDepth 100000 in
set_option maxHeartbeats 4000000 in
theorem gTrim_any (q : Nat) (h : DriveAt w dp D F) (hr : GAt w rp dp t c H) (ha : ∀ k, F k → ¬ H k) (hf : D.Few 900000) (hs : 0 < Ri.slots D.safe.length) (ht : t < 18446744073709551616) (hc : c ≤ 1000) (hq : q < 18446744073709551616) :
    Calls Tryz.prog 31 #[.pointer (some ⟨rp, 0, none⟩), .int .u64 (q : Int)] w fun e w' => e = .returned (.int .i64 ((Ri.trimS D t c q).1 : Nat)) ∧ DriveAt w' dp (Ri.trimS D t c q).2 (Plus F w.heap.size) ∧ GAt w' rp dp (Ri.trimT D t c q).1 (Ri.trimT D t c q).2 H ∧ Only (fun k => F k ∨ H k) w w' := by
  obtain ⟨hg, hH⟩ := hr
  have hFr : ¬ F rp := fun e => ha rp e hH
  obtain ⟨ah, hah⟩ : ∃ ah, ah = Ri.ahead t q := ⟨_, rfl⟩
  have hw1 : IntKind.u64.wrap ((q : Int) - (t : Int)) = (ah : Int) := by rw [IntKind.wrap_u64, hah]; unfold Ri.ahead Ri.top; omega
  have hahl : ah < 18446744073709551616 := by rw [hah]; exact Nat.mod_lt _ (by decide)
  have HT : Hid (Ri.trimS D t c q = if ah ≤ c then Dr.fl1 (Dr.wr1 (0, D) 3 (Ri.markB q).data.toList) else (1, D)) := by show _ = _; rw [hah]; rfl
  have k0 := hg.k0
  have k1 := hg.k1
  have k2 := hg.k2
  by_cases hle : ah ≤ c
  case neg =>
    have hgt : c < ah := by omega
    have HT1 : Hid (Ri.trimS D t c q = (1, D)) := by show _ = _; rw [HT.out, if_neg hle]
    have HT2 : Hid (Ri.trimT D t c q = (t, c)) := by show _ = _; unfold Ri.trimT; rw [HT1.out]; rfl
    have HG : Hid (GAt w rp dp t c H) := ⟨hg, hH⟩
    have HD : Hid (DriveAt w dp D F) := h
    clear hle h hg hH ha hf hs ht hc hq hFr hah
    go_enter Tryz.func31, Tryz.ntmps31
    go_wp2
    go_ret
    exact ⟨by rw [HT1.out]; rfl, by rw [HT1.out]; exact HD.out.mono fun _ hk => .inl hk, by rw [HT2.out]; exact HG.out, Only.refl _ _⟩
  case pos =>
  have hgt : ¬ c < ah := by omega
  have HT1 : Hid (Ri.trimS D t c q = Dr.fl1 (Dr.wr1 (0, D) 3 (Ri.markB q).data.toList)) := by show _ = _; rw [HT.out, if_pos hle]
  have hsl := gslots_any h hg
  obtain ⟨N, hN⟩ : ∃ N, N = Ri.slots D.safe.length := ⟨_, rfl⟩
  rw [← hN] at hsl hs
  have HTT : Hid (Ri.trimT D t c q = if (Ri.trimS D t c q).1 = 0 then (q, c - ah) else (t, c)) := by show _ = _; unfold Ri.trimT; rw [hah]
  have HLe : Hid (ah ≤ c ∧ c ≤ 1000) := ⟨hle, hc⟩
  have hz0 : ((N : Int) == 0) = false := by rw [beq_eq_false_iff_ne]; omega
  have hmx : Tryz.prog.follows .mixedOrders = true := by kernel_rfl
  have HMX : Hid (Tryz.prog.follows .mixedOrders = true) := hmx
  have HTw : Hid (∀ (W : World) (b g : Nat) (ty : TypeId), Below w.heap.size w W → CloAt W b rp 3 (some ⟨g, 0, none⟩) 1 1 → RowS W (some ⟨g, 0, none⟩) 1 (fun _ => Ri.markB q) → w.heap.size ≤ b → w.heap.size ≤ g →
      Calls Tryz.prog 45 #[.slice (some ⟨W.heap.size, 0, none⟩) 2 2] (W.alloc (.cells #[.func (.func 77) #[] #[.pointer (some ⟨b + 2, 0, none⟩), .pointer (some ⟨b, 0, none⟩), .pointer (some ⟨b + 1, 0, none⟩)], .func (.func 39) #[.pointer (some ⟨dp, 0, none⟩)] #[]] ty)) fun e w' => e = .returned (.int .i64 ((Dr.fl1 (Dr.wr1 (0, D) 3 (Ri.markB q).data.toList)).1 : Nat)) ∧ PEnd w w' dp (Dr.fl1 (Dr.wr1 (0, D) 3 (Ri.markB q).data.toList)).2 (fun k => F k ∧ k < w.heap.size)) := fun W b g ty hb h1 h2 h3 h4 =>
    two_steps ty h.tight (fun k hk => hk.2) hg (fun e => hFr e.1) hf (Ri.markB_size hq) (by decide) hb h1 h2 h3 h4
  rw [← HT1.out] at HTw
  obtain ⟨y, hy⟩ : ∃ y, y = (Ri.trimS D t c q).1 := ⟨_, rfl⟩
  have HY : Hid (y = (Ri.trimS D t c q).1) := hy
  rw [← hy] at HTw
  clear hy
  have HMk : Hid (∀ W, Calls Tryz.prog 46 #[.int .u64 (q : Int)] W fun e w' => e = .returned (.string (Ri.markB q)) ∧ Below W.heap.size W w') := fun W => gmark_any q hq W
  have HWr : Hid (∀ W n cap a, Calls Tryz.prog 42 #[.pointer (some ⟨rp, 0, none⟩), .int .i64 3, .slice a n cap] W fun e w' => e = .returned (.func (.func 77) #[] #[.pointer (some ⟨W.heap.size + 2, 0, none⟩), .pointer (some ⟨W.heap.size, 0, none⟩), .pointer (some ⟨W.heap.size + 1, 0, none⟩)]) ∧ CloAt w' W.heap.size rp 3 a n cap ∧ Below W.heap.size W w') := fun W n cap a => writing_any rp 3 n cap a W
  have HG : Hid (GRing w rp dp t c) := hg
  have HHr : Hid (H rp ∧ ¬ F rp) := ⟨hH, hFr⟩
  clear hN hs hah hle hmx h hg ha hf ht hc hH hFr
  go_enter Tryz.func31, Tryz.ntmps31
  go_wp2_with fail
  refine hsl.mono ?_
  rintro e w1 ⟨rfl, rfl⟩
  go_upto_region 4 with fail
  have d0 : w1.drew.cell? ⟨rp, 0, none⟩ = some (.pointer (some ⟨dp, 0, none⟩)) := k0
  have b0 : Below w1.heap.size w1 w1.drew := (Below.refl _ _).drew
  go_region_held3 (fun W => W.cell? ⟨rp, 0, none⟩ = some (.pointer (some ⟨dp, 0, none⟩))) (first | exact d0 | assumption | exact keep_at (p := ⟨rp, 0, none⟩) ((Below.refl _ _).alloc (Nat.le_refl _) _) (by assumption)) (first
    | (go_at_call 46; refine (HMk.out _).mono ?_; rintro e w2 ⟨rfl, hb2⟩; have s2 := keep_at (p := ⟨rp, 0, none⟩) hb2 (by assumption))
    | (go_at_call 42; refine (HWr.out _ _ _ _).mono ?_; rintro e w4 ⟨rfl, hc4, hb4⟩; have s4 := keep_at (p := ⟨rp, 0, none⟩) hb4 (by assumption))
    | (go_at_call 45; refine (HTw.out w4 (w2.heap.size + 1) w2.heap.size _ (below2 (below2 (below2 b0 hb2) ((Below.refl _ _).alloc (Nat.le_refl _) _)) hb4) (by rw [World.size_alloc] at hc4; exact hc4) ((text_new w2 _ _).below hb4) (by have := hb2.size; have := b0.size; omega) (by have := hb2.size; have := b0.size; omega)).mono ?_; rintro e w5 ⟨rfl, hp5⟩; have s5 := (HG.out.only hp5.2 (fun e => HHr.out.2 e.1)).k0))
  all_goals
    have HP5 : Hid (PEnd w1 w5 dp (Ri.trimS D t c q).2 (fun k => F k ∧ k < w1.heap.size)) := hp5
    have hg5 : GRing w5 rp dp t c := HG.out.only hp5.2 (fun e => HHr.out.2 e.1)
    have HG5 : Hid (GRing w5 rp dp t c) := hg5
    have HRl : Hid (¬ Plus F w1.heap.size rp) := fun e => e.elim HHr.out.2 (fun x => by have := HG.out.lt; omega)
    have z1 := hg5.k1
    have z2 := hg5.k2
    have f1 := hg5.fz 1
    have f2 := hg5.fz 2
    have l5 := hg5.lt
    clear hp5 s5 hc4 hb4 s4 hb2 s2 b0 d0 k0 k1 k2 hg5 hsl
    by_cases hy0 : y = 0
    case neg =>
      have hne : ((y : Int) != 0) = true := by rw [bne_iff_ne]; omega
      have HTt : Hid (Ri.trimT D t c q = (t, c)) := by show _ = _; rw [HTT.out, ← HY.out, if_neg hy0]
      clear hy0
      go_wp2
      go_ret
      exact ⟨by rw [← HY.out]; rfl, HP5.out.1.mono (fun k hk => hk.imp (fun x => x.1) id), by rw [HTt.out]; exact ⟨HG5.out, HHr.out.1⟩, HP5.out.2.mono fun k hk => .inl hk.1⟩
    case pos =>
    have hne : ((y : Int) != 0) = false := by rw [bne_eq_false_iff_eq]; omega
    obtain ⟨ca, hca⟩ : ∃ ca, ca = c - ah := ⟨_, rfl⟩
    have hcw : IntKind.u64.wrap ((c : Int) - (ah : Int)) = (ca : Int) := by rw [IntKind.wrap_u64]; have := HLe.out; omega
    have HTt : Hid (Ri.trimT D t c q = (q, ca)) := by show _ = _; rw [HTT.out, ← HY.out, if_pos hy0, hca]
    have HY0 : Hid (0 = y) := hy0.symm
    clear hy0 hca
    go_wp2
    go_ret
    refine ⟨by rw [← HY.out, ← HY0.out]; rfl, ?_, by rw [HTt.out]; exact ⟨HG5.out.trimmed, HHr.out.1⟩, ?_⟩
    · have h1 : DriveAt w5 dp (Ri.trimS D t c q).2 (Plus F w1.heap.size) := HP5.out.1.mono (fun k hk => hk.imp (fun x => x.1) id)
      exact h1.only ((Only.setCell (fun x => x = rp) w5 ⟨rp, 1, none⟩ _ rfl).then (Only.setCell (fun x => x = rp) _ ⟨rp, 2, none⟩ _ rfl)) (fun k _ hk e => HRl.out (e ▸ hk))
    · exact (HP5.out.2.mono (G := fun k => F k ∨ H k) fun k hk => .inl hk.1).then ((Only.setCell (fun x => F x ∨ H x) w5 ⟨rp, 1, none⟩ _ (.inr HHr.out.1)).then (Only.setCell (fun x => F x ∨ H x) _ ⟨rp, 2, none⟩ _ (.inr HHr.out.1)))
end
end Go.Proofs.YtjmeiifogblmoaaGreatDoor

namespace Go.Proofs.YtjmeiifogblmoaaGreatDoor
open Go.RowKit

section
variable {w : World} {rp dp t c : Nat} {D : Dr} {F H : Nat → Prop} {row : Int} {n cap : Nat} {a : Option Addr} {f : Nat → Prt}
/-- what Append leaves -/
def GAppAns (w : World) (rp dp t c : Nat) (row : Int) (n : Nat) (f : Nat → Prt) (D : Dr) (F H : Nat → Prop) (e : Ending) (w' : World) : Prop :=
  e = .returned (.tuple #[.int .u64 (Ri.appV D t c row n f : Nat), .int .i64 ((Ri.appS D t c row n f).1 : Nat)]) ∧ DriveAt w' dp (Ri.appS D t c row n f).2 (Plus F w.heap.size) ∧ GAt w' rp dp t (Ri.appC D t c row n f) H ∧ Only (fun k => F k ∨ H k) w w'
theorem gapp_none {w w' : World} (h : DriveAt w dp D F) (hr : GAt w rp dp t c H) {k : Nat} (hk : k ≠ 0) (ha : Ri.appS D t c row n f = (k, D)) (hb : Below w.heap.size w w') {e : Ending} (he : e = .returned (.tuple #[.int .u64 0, .int .i64 (k : Nat)])) : GAppAns w rp dp t c row n f D F H e w' := by
  have e1 : Ri.appV D t c row n f = 0 := by unfold Ri.appV; rw [ha]; exact if_neg hk
  have e2 : Ri.appC D t c row n f = c := by unfold Ri.appC; rw [ha]; exact if_neg hk
  refine ⟨by rw [he, e1, ha]; rfl, ?_, ?_, Only.of_below hb _⟩
  · rw [ha]; exact (h.below hb).mono fun _ hk => .inl hk
  · rw [e2]; exact ⟨hr.1.below hb, hr.2⟩
/-- a load that is written, a flush, a head that is written, a flush -/
theorem four_steps {w W : World} {rp dp t c b1 b2 p n cL g : Nat} {D : Dr} {F : Nat → Prop} {aL : Option Addr} {fL : Nat → ByteArray} {s : ByteArray} (ty : TypeId) (h : DriveAt w dp D F) (hlow : ∀ k, F k → k < w.heap.size) (hr : GRing w rp dp t c) (hk : ¬ F rp) (hf : D.Few 900000) (hs : s.size = 64) (hp : p ≤ 90000) (hb : Below w.heap.size w W)
    (hL : RowS W aL n fL) (h64 : ∀ j, j < n → (fL j).size = 64) (hn : n ≤ 40) (haL : ∀ x, aL = some x → w.heap.size ≤ x.block ∧ x.block < W.heap.size)
    (hc1 : CloAt W b1 rp (p + 1) aL n cL) (hc2 : CloAt W b2 rp p (some ⟨g, 0, none⟩) 1 1) (hrow : RowS W (some ⟨g, 0, none⟩) 1 (fun _ => s)) (hb1 : w.heap.size ≤ b1) (hb2 : w.heap.size ≤ b2) (hg1 : w.heap.size ≤ g) :
    Calls Tryz.prog 45 #[.slice (some ⟨W.heap.size, 0, none⟩) 4 4] (W.alloc (.cells #[cloV b1, flushV dp, cloV b2, flushV dp] ty)) fun e w' => e = .returned (.int .i64 ((Dr.fl1 (Dr.wr1 (Dr.fl1 (Dr.wrTo (0, D) (fun j => p + 1 + j) (fun j => (fL j).data.toList) n)) p s.data.toList)).1 : Nat)) ∧ PEnd w w' dp (Dr.fl1 (Dr.wr1 (Dr.fl1 (Dr.wrTo (0, D) (fun j => p + 1 + j) (fun j => (fL j).data.toList) n)) p s.data.toList)).2 F := by
  have ha : Below W.heap.size W (W.alloc (.cells #[cloV b1, flushV dp, cloV b2, flushV dp] ty)) := (Below.refl _ W).alloc (Nat.le_refl _) _
  have hB : Below w.heap.size w (W.alloc (.cells #[cloV b1, flushV dp, cloV b2, flushV dp] ty)) := below2 hb ha
  have hsz := hb.size
  obtain ⟨bb, o, e0, hcell⟩ := hrow 0 (by decide)
  have e1 : g = bb := by injection e0 with e0; injection e0
  have hgl : g < W.heap.size := by rw [e1]; exact World.block_lt_of_cell? W _ hcell
  have hn4 := heap_alloc_new W (.cells #[cloV b1, flushV dp, cloV b2, flushV dp] ty)
  have hcalls := dsteps_any (n := 4) (cap := 4) (a := some ⟨W.heap.size, 0, none⟩) (fun j => match j with | 0 => Stp.wr b1 (p + 1) n cL aL fL | 2 => Stp.wr b2 p 1 1 (some ⟨g, 0, none⟩) (fun _ => s) | _ => Stp.fl) (h.below hB) (hr.below hB) hk hf (by decide) (fun j hj => ?_) (fun j hj => ?_)
  · refine hcalls.mono ?_
    rintro e w' ⟨he, hp⟩
    exact ⟨he, (PEnd.refl h).below hB |>.trans (by
      have h2 : PEnd (W.alloc (.cells #[cloV b1, flushV dp, cloV b2, flushV dp] ty)) w' dp (Dr.fl1 (Dr.wr1 (Dr.fl1 (Dr.wrTo (0, D) (fun j => p + 1 + j) (fun j => (fL j).data.toList) n)) p s.data.toList)).2 F := hp
      exact ⟨h2.1.mono fun k hk => hk.elim (fun x => .inl (.inl x)) .inr, h2.2.mono fun k hk => .inl hk⟩)⟩
  · match j, hj with
    | 0, _ => exact ⟨hc1.below ha, hL.below ha, h64, hn, by omega, fun e => by have := hlow _ e; omega, fun e => by have := hlow _ e; omega, fun e => by have := hlow _ e; omega, fun x hx => ⟨fun e => by have := hlow _ e; have := haL x hx; omega, Nat.lt_of_lt_of_le (haL x hx).2 ha.size⟩⟩
    | 1, _ => trivial
    | 2, _ => exact ⟨hc2.below ha, hrow.below ha, fun _ _ => hs, by decide, by omega, fun e => by have := hlow _ e; omega, fun e => by have := hlow _ e; omega, fun e => by have := hlow _ e; omega, fun x hx => by cases hx; exact ⟨fun e => by have := hlow _ e; dsimp only at this; omega, Nat.lt_of_lt_of_le hgl ha.size⟩⟩
    | 3, _ => trivial
  · refine ⟨W.heap.size, 0, rfl, ?_, fun e => by have := hlow _ e; omega⟩
    match j, hj with
    | 0, _ => rw [cell_of_row _ W.heap.size (0 + 0) _ _ _ hn4]; rfl
    | 1, _ => rw [cell_of_row _ W.heap.size (0 + 1) _ _ _ hn4]; rfl
    | 2, _ => rw [cell_of_row _ W.heap.size (0 + 2) _ _ _ hn4]; rfl
    | 3, _ => rw [cell_of_row _ W.heap.size (0 + 3) _ _ _ hn4]; rfl
set_option maxRecDepth 100000 in
set_option maxHeartbeats 1000000 in
theorem gAppend_full (h : DriveAt w dp D F) (hr : GAt w rp dp t c H) (hc : c ≤ 1000) (hf : Ri.slots D.safe.length ≤ c) :
    Calls Tryz.prog 28 #[.pointer (some ⟨rp, 0, none⟩), .int .i64 row, .slice a n cap] w (GAppAns w rp dp t c row n f D F H) := by
  have HA : Hid (Ri.appS D t c row n f = (130, D)) := if_pos hf
  have hL := Left_any h hr.1 hc
  have HH : Hid (DriveAt w dp D F ∧ GAt w rp dp t c H) := ⟨h, hr⟩
  obtain ⟨N, hN⟩ : ∃ N, N = Ri.slots D.safe.length := ⟨_, rfl⟩
  rw [← hN] at hL hf
  obtain ⟨x, hx⟩ : ∃ x : Int, x = (N : Int) - (c : Int) := ⟨_, rfl⟩
  have hle : decide (x < 1) = true := by rw [decide_eq_true_iff]; omega
  rw [← hx] at hL
  clear h hr hN hf hx hc
  go_enter Tryz.func28, Tryz.ntmps28
  go_wp2_with fail
  refine hL.mono ?_
  rintro e w1 ⟨rfl, hb1⟩
  have HB1 : Hid (Below w.heap.size w w1) := hb1
  clear hb1
  go_wp2
  go_ret2
  exact gapp_none HH.out.1 HH.out.2 (by decide) HA.out HB1.out rfl
set_option maxRecDepth 100000 in
set_option maxHeartbeats 1000000 in
theorem gAppend_no (h : DriveAt w dp D F) (hr : GAt w rp dp t c H) (hc : c ≤ 1000) (hf : c < Ri.slots D.safe.length) (hin : RecIn row n f) (hp : PartsR w a n f) (hm : Rc.mayB row n f = false) :
    Calls Tryz.prog 28 #[.pointer (some ⟨rp, 0, none⟩), .int .i64 row, .slice a n cap] w (GAppAns w rp dp t c row n f D F H) := by
  have HA : Hid (Ri.appS D t c row n f = (1, D)) := by show _ = _; unfold Ri.appS; rw [if_neg (by omega), if_neg (by rw [hm]; decide)]
  have hL := Left_any h hr.1 hc
  have HH : Hid (DriveAt w dp D F ∧ GAt w rp dp t c H) := ⟨h, hr⟩
  obtain ⟨m, hmm⟩ : ∃ m, m = Ri.nth t (c + 1) := ⟨_, rfl⟩
  have HNx : Hid (∀ W, Below w.heap.size w W → Calls Tryz.prog 35 #[.pointer (some ⟨rp, 0, none⟩)] W fun e w' => e = .returned (.int .u64 (m : Int)) ∧ Below W.heap.size W w') := fun W hW => by rw [hmm]; exact Next_any (hr.1.below hW)
  have HE : Hid (∀ W, Below w.heap.size w W → Calls Tryz.prog 38 #[.agg #[.int .u64 (m : Int), .int .i64 row, .slice a n cap]] W (EncOwn W m row n f)) := fun W hW => Encode12_any m row a n cap f W (by rw [hmm]; exact Ri.nth_lt _ _) hin (hp.below hW)
  have HEe : Hid (Rc.encE row n f = 1 ∧ Rc.encN row n f = 0 ∧ Rc.encT m row n f = ⟨#[]⟩) := by
    refine ⟨?_, ?_, ?_⟩
    · unfold Rc.encE; rw [hm]; rfl
    · unfold Rc.encN; rw [hm]; rfl
    · unfold Rc.encT; rw [hm]; rfl
  obtain ⟨N, hN⟩ : ∃ N, N = Ri.slots D.safe.length := ⟨_, rfl⟩
  rw [← hN] at hL hf
  obtain ⟨x, hx⟩ : ∃ x : Int, x = (N : Int) - (c : Int) := ⟨_, rfl⟩
  have hle : decide (x < 1) = false := by rw [decide_eq_false_iff_not]; omega
  rw [← hx] at hL
  clear h hr hN hf hx hc hm hmm hin hp
  go_enter Tryz.func28, Tryz.ntmps28
  go_wp2_with fail
  refine hL.mono ?_
  rintro e w1 ⟨rfl, hb1⟩
  have HB1 : Hid (Below w.heap.size w w1) := hb1
  clear hb1
  go_wp2_with fail
  refine (HNx.out _ HB1.out).mono ?_
  rintro e wn ⟨rfl, hbn⟩
  have HBn : Hid (Below w.heap.size w wn) := below2 HB1.out hbn
  clear hbn
  go_wp2_with fail
  refine (HE.out _ HBn.out).mono ?_
  rintro e w2 ⟨v, rfl, hown, hb2⟩
  rw [HEe.out.2.1] at hown
  obtain ⟨ax, cx, rfl, _, _, _⟩ := RowS.of_owns hown
  have HB2 : Hid (Below w.heap.size w w2) := below2 HBn.out hb2
  clear hb2 hown
  rw [HEe.out.1, HEe.out.2.2]
  go_wp2
  go_ret2
  exact gapp_none HH.out.1 HH.out.2 (by decide) HA.out HB2.out rfl
set_option maxRecDepth 100000 in
set_option maxHeartbeats 8000000 in
theorem gAppend_yes (h : DriveAt w dp D F) (hr : GAt w rp dp t c H) (hab : ∀ k, F k → ¬ H k) (hfw : D.Few 900000) (hc : c ≤ 1000) (hf : c < Ri.slots D.safe.length) (hin : RecIn row n f) (hp : PartsR w a n f) (hm : Rc.mayB row n f = true) :
    Calls Tryz.prog 28 #[.pointer (some ⟨rp, 0, none⟩), .int .i64 row, .slice a n cap] w (GAppAns w rp dp t c row n f D F H) := by
  have HA : Hid (Ri.appS D t c row n f = Ri.putS D (Ri.nth t (c + 1)) row n f) := by show _ = _; unfold Ri.appS; rw [if_neg (by omega), if_pos hm]
  have hL := Left_any h hr.1 hc
  have hFr : ¬ F rp := fun e => hab rp e hr.2
  have HR : Hid (GRing w rp dp t c ∧ H rp ∧ ¬ F rp) := ⟨hr.1, hr.2, hFr⟩
  have HD : Hid (DriveAt w dp D (fun k => F k ∧ k < w.heap.size)) := h.tight
  obtain ⟨hfu, hpl⟩ := (Rc.may_iff _ _ _).1 hm
  obtain ⟨row0, row1, n1, n40⟩ := (Rc.few_iff _ _).1 ((Rc.places_iff _ _ _).1 hpl).1
  have hhs : (Rc.headS (Ri.nth t (c + 1)) row n f (Rc.sumF n f)).size = 64 := Rc.headS_size (Ri.nth_lt _ _) (by omega) (by omega) (Rc.sumF_lt n f) n40 f
  have h64 := (Rc.fullTo_iff f n).1 hfu
  obtain ⟨m, hmm⟩ : ∃ m, m = Ri.nth t (c + 1) := ⟨_, rfl⟩
  have hml : m < 18446744073709551616 := by rw [hmm]; exact Ri.nth_lt _ _
  have hpc := fun (W : World) (hW : Below w.heap.size w W) => gplace_any (h.below hW) (hr.1.below hW) (show 0 < Ri.slots D.safe.length by omega) m hml
  have HNx : Hid (∀ W, Below w.heap.size w W → Calls Tryz.prog 35 #[.pointer (some ⟨rp, 0, none⟩)] W fun e w' => e = .returned (.int .u64 (m : Int)) ∧ Below W.heap.size W w') := fun W hW => by rw [hmm]; exact Next_any (hr.1.below hW)
  rw [← hmm] at HA hhs
  obtain ⟨p, hpp⟩ : ∃ p, p = Ri.first D.safe.length m := ⟨_, rfl⟩
  have hp9 : p ≤ 80000 := by
    have := Nat.mod_lt m (show 0 < Ri.slots D.safe.length by omega)
    have := slots_few h
    rw [hpp]; unfold Ri.first; omega
  obtain ⟨hd, hhd⟩ : ∃ hd, hd = Rc.headS m row n f (Rc.sumF n f) := ⟨_, rfl⟩
  rw [← hpp] at hpc
  rw [← hhd] at hhs
  have hput : Ri.putS D m row n f = Dr.fl1 (Dr.wr1 (Dr.fl1 (Dr.wrTo (0, D) (fun j => p + 1 + j) (fun j => (f j).data.data.toList) n)) p hd.data.toList) := by unfold Ri.putS; rw [← hpp, ← hhd]
  rw [hput] at HA
  have HE : Hid (∀ W, Below w.heap.size w W → Calls Tryz.prog 38 #[.agg #[.int .u64 (m : Int), .int .i64 row, .slice a n cap]] W (EncOwn W m row n f)) := fun W hW => Encode12_any m row a n cap f W hml hin (hp.below hW)
  have HEe : Hid (Rc.encE row n f = 0 ∧ Rc.encN row n f = n ∧ Rc.encT m row n f = hd) := by
    refine ⟨?_, ?_, ?_⟩
    · unfold Rc.encE; rw [hm]; rfl
    · unfold Rc.encN; rw [hm]; rfl
    · unfold Rc.encT; rw [hm, hhd]; rfl
  obtain ⟨y, hy⟩ : ∃ y, y = (Ri.appS D t c row n f).1 := ⟨_, rfl⟩
  have HY : Hid (y = (Ri.appS D t c row n f).1) := hy
  have HFo : Hid (∀ (W : World) (b1 b2 g cL : Nat) (aL : Option Addr) (ty : TypeId), Below w.heap.size w W → RowS W aL n (fun j => (f j).data) → (∀ x, aL = some x → w.heap.size ≤ x.block ∧ x.block < W.heap.size) → CloAt W b1 rp (p + 1) aL n cL → CloAt W b2 rp p (some ⟨g, 0, none⟩) 1 1 → RowS W (some ⟨g, 0, none⟩) 1 (fun _ => hd) → w.heap.size ≤ b1 → w.heap.size ≤ b2 → w.heap.size ≤ g →
      Calls Tryz.prog 45 #[.slice (some ⟨W.heap.size, 0, none⟩) 4 4] (W.alloc (.cells #[.func (.func 77) #[] #[.pointer (some ⟨b1 + 2, 0, none⟩), .pointer (some ⟨b1, 0, none⟩), .pointer (some ⟨b1 + 1, 0, none⟩)], .func (.func 39) #[.pointer (some ⟨dp, 0, none⟩)] #[], .func (.func 77) #[] #[.pointer (some ⟨b2 + 2, 0, none⟩), .pointer (some ⟨b2, 0, none⟩), .pointer (some ⟨b2 + 1, 0, none⟩)], .func (.func 39) #[.pointer (some ⟨dp, 0, none⟩)] #[]] ty)) fun e w' => e = .returned (.int .i64 (y : Nat)) ∧ PEnd w w' dp (Ri.appS D t c row n f).2 (fun k => F k ∧ k < w.heap.size)) := fun W b1 b2 g cL aL ty hb hL haL h1 h2 h3 h4 h5 h6 => by
    rw [hy, HA.out]
    exact four_steps ty HD.out (fun k hk => hk.2) hr.1 (fun e => hFr e.1) hfw hhs (by omega) hb hL h64 n40 haL h1 h2 h3 h4 h5 h6
  have HPc : Hid (∀ W, Below w.heap.size w W → Calls Tryz.prog 66 #[.pointer (some ⟨rp, 0, none⟩), .int .u64 (m : Int)] W fun e w' => e = .returned (.int .i64 (p : Nat)) ∧ w' = W) := hpc
  have HWr : Hid (∀ W q n cap a, Calls Tryz.prog 42 #[.pointer (some ⟨rp, 0, none⟩), .int .i64 (q : Nat), .slice a n cap] W fun e w' => e = .returned (.func (.func 77) #[] #[.pointer (some ⟨W.heap.size + 2, 0, none⟩), .pointer (some ⟨W.heap.size, 0, none⟩), .pointer (some ⟨W.heap.size + 1, 0, none⟩)]) ∧ CloAt w' W.heap.size rp q a n cap ∧ Below W.heap.size W w') := fun W q n cap a => writing_any rp q n cap a W
  have HMm : Hid (m = Ri.nth t (c + 1)) := hmm
  have hcw : IntKind.u64.wrap ((c : Int) + 1) = ((c + 1 : Nat) : Int) := by rw [IntKind.wrap_u64]; omega
  obtain ⟨c1, hc1⟩ : ∃ c1, c1 = c + 1 := ⟨_, rfl⟩
  have HC1 : Hid (c1 = c + 1) := hc1
  rw [← hc1] at hcw
  obtain ⟨p1, hp1⟩ : ∃ p1 : Nat, p1 = p + 1 := ⟨_, rfl⟩
  have HP1 : Hid (p1 = p + 1) := hp1
  have hpi : (p : Int) + 1 = (p1 : Int) := by omega
  have hpw : IntKind.i64.wrap (p1 : Int) = (p1 : Int) := by rw [IntKind.wrap_i64]; omega
  obtain ⟨N, hN⟩ : ∃ N, N = Ri.slots D.safe.length := ⟨_, rfl⟩
  rw [← hN] at hL hf
  obtain ⟨x, hx⟩ : ∃ x : Int, x = (N : Int) - (c : Int) := ⟨_, rfl⟩
  have hle : decide (x < 1) = false := by rw [decide_eq_false_iff_not]; omega
  rw [← hx] at hL
  clear h hr hN hf hx hc hm hmm hin hp hab hfu hpl hhs h64 hpp hhd hput hfw row0 row1 hml hFr hy hc1 hp1 hpc
  go_enter Tryz.func28, Tryz.ntmps28
  go_wp2_with fail
  refine hL.mono ?_
  rintro e w1 ⟨rfl, hb1⟩
  have HB1 : Hid (Below w.heap.size w w1) := hb1
  clear hb1 hL
  go_wp2_with fail
  refine (HNx.out _ HB1.out).mono ?_
  rintro e wn ⟨rfl, hbn⟩
  have HBn : Hid (Below w.heap.size w wn) := below2 HB1.out hbn
  clear hbn
  go_wp2_with fail
  refine (HE.out _ HBn.out).mono ?_
  rintro e w2 ⟨v, rfl, hown, hb2⟩
  have HB2 : Hid (Below w.heap.size w w2) := below2 HBn.out hb2
  rw [HEe.out.1, HEe.out.2.2]
  rw [HEe.out.2.1] at hown
  have hlow := hown.lt
  obtain ⟨aL, cL, rfl, hrs, _, _⟩ := RowS.of_owns hown
  have HRs : Hid (RowS w2 aL n (fun j => (f j).data)) := hrs
  have HLow : Hid (∀ x, aL = some x → w.heap.size ≤ x.block ∧ x.block < w2.heap.size) := fun x hx => by
    have h2 := hlow x.block (by rw [hx]; rfl)
    exact ⟨Nat.le_trans HBn.out.size h2.1, h2.2⟩
  clear hown hlow hrs hb2
  go_wp2_with fail
  refine (HPc.out _ HB2.out).mono ?_
  rintro e w3 ⟨rfl, rfl⟩
  have g3 := HR.out.1.below HB2.out
  have d0 : w3.drew.cell? ⟨rp, 0, none⟩ = some (.pointer (some ⟨dp, 0, none⟩)) := g3.k0
  have b0 : Below w.heap.size w w3.drew := HB2.out.drew
  have HG3 : Hid (GRing w3 rp dp t c) := g3
  clear g3
  go_upto_region 8 with fail
  have hmx : Tryz.prog.follows .mixedOrders = true := by kernel_rfl
  refine wp_region_held (S := fun W => W.cell? ⟨rp, 0, none⟩ = some (.pointer (some ⟨dp, 0, none⟩))) hmx ?_
  have hS : (fun W : World => W.cell? ⟨rp, 0, none⟩ = some (.pointer (some ⟨dp, 0, none⟩))) w3.drew := d0
  change wpAnyH _ _ _ _ _ _ _ _ w3.drew
  refine held_quiet 0 (v := ?v0q1) rfl (by kernel_rfl) (fun _ _ _ h => h) (by assumption) rfl ?hy0q1 ?rest0q1
  case hy0q1 => (intro wS hSw; (try dsimp only at hSw); go_simp; try with_reducible rfl)
  try simp only [Act.put, List.setIfInBounds_toArray, List.set_cons_zero, List.set_cons_succ]
  refine held_quiet 1 (v := ?v1q2) rfl (by kernel_rfl) (fun _ _ _ h => h) (by assumption) rfl ?hy1q2 ?rest1q2
  case hy1q2 => (intro wS hSw; (try dsimp only at hSw); go_simp; try with_reducible rfl)
  try simp only [Act.put, List.setIfInBounds_toArray, List.set_cons_zero, List.set_cons_succ]
  refine held_quiet 2 (v := ?v2q3) rfl (by kernel_rfl) (fun _ _ _ h => h) (by assumption) rfl ?hy2q3 ?rest2q3
  case hy2q3 => (intro wS hSw; (try dsimp only at hSw); go_simp; try with_reducible rfl)
  try simp only [Act.put, List.setIfInBounds_toArray, List.set_cons_zero, List.set_cons_succ]
  refine held_quiet 3 (v := ?v3q4) rfl (by kernel_rfl) (fun _ _ _ h => h) (by assumption) rfl ?hy3q4 ?rest3q4
  case hy3q4 => (intro wS hSw; (try dsimp only at hSw); go_simp; try with_reducible rfl)
  try simp only [Act.put, List.setIfInBounds_toArray, List.set_cons_zero, List.set_cons_succ]
  refine held_quiet 5 (v := ?v5q5) rfl (by kernel_rfl) (fun _ _ _ h => h) (by assumption) rfl ?hy5q5 ?rest5q5
  case hy5q5 => (intro wS hSw; (try dsimp only at hSw); go_simp; try with_reducible rfl)
  try simp only [Act.put, List.setIfInBounds_toArray, List.set_cons_zero, List.set_cons_succ]
  refine held_quiet 6 (v := ?v6q6) rfl (by kernel_rfl) (fun _ _ _ h => h) (by assumption) rfl ?hy6q6 ?rest6q6
  case hy6q6 => (intro wS hSw; (try dsimp only at hSw); go_simp; try with_reducible rfl)
  try simp only [Act.put, List.setIfInBounds_toArray, List.set_cons_zero, List.set_cons_succ]
  refine held_quiet 7 (v := ?v7q7) rfl (by kernel_rfl) (fun _ _ _ h => h) (by assumption) rfl ?hy7q7 ?rest7q7
  case hy7q7 => (intro wS hSw; (try dsimp only at hSw); go_simp; try with_reducible rfl)
  try simp only [Act.put, List.setIfInBounds_toArray, List.set_cons_zero, List.set_cons_succ]
  refine held_quiet 8 (v := ?v8q8) rfl (by kernel_rfl) (fun _ _ _ h => h) (by assumption) rfl ?hy8q8 ?rest8q8
  case hy8q8 => (intro wS hSw; (try dsimp only at hSw); go_simp; try with_reducible rfl)
  try simp only [Act.put, List.setIfInBounds_toArray, List.set_cons_zero, List.set_cons_succ]
  refine held_quiet 9 (v := ?v9q9) rfl (by kernel_rfl) (fun _ _ _ h => h) (by assumption) rfl ?hy9q9 ?rest9q9
  case hy9q9 => (intro wS hSw; (try dsimp only at hSw); go_simp; try with_reducible rfl)
  try simp only [Act.put, List.setIfInBounds_toArray, List.set_cons_zero, List.set_cons_succ]
  refine held_quiet 10 (v := ?v10q10) rfl (by kernel_rfl) (fun _ _ _ h => h) (by assumption) rfl ?hy10q10 ?rest10q10
  case hy10q10 => (intro wS hSw; (try dsimp only at hSw); go_simp; try with_reducible rfl)
  try simp only [Act.put, List.setIfInBounds_toArray, List.set_cons_zero, List.set_cons_succ]
  refine held_quiet 11 (v := ?v11q11) rfl (by kernel_rfl) (fun _ _ _ h => h) (by assumption) rfl ?hy11q11 ?rest11q11
  case hy11q11 => (intro wS hSw; (try dsimp only at hSw); go_simp; try with_reducible rfl)
  try simp only [Act.put, List.setIfInBounds_toArray, List.set_cons_zero, List.set_cons_succ]
  refine held_quiet 12 (v := ?v12q12) rfl (by kernel_rfl) (fun _ _ _ h => h) (by assumption) rfl ?hy12q12 ?rest12q12
  case hy12q12 => (intro wS hSw; (try dsimp only at hSw); go_simp; try with_reducible rfl)
  try simp only [Act.put, List.setIfInBounds_toArray, List.set_cons_zero, List.set_cons_succ]
  refine held_quiet 15 (v := ?v15q13) rfl (by kernel_rfl) (fun _ _ _ h => h) (by assumption) rfl ?hy15q13 ?rest15q13
  case hy15q13 => (intro wS hSw; (try dsimp only at hSw); go_simp; try with_reducible rfl)
  try simp only [Act.put, List.setIfInBounds_toArray, List.set_cons_zero, List.set_cons_succ]
  refine held_quiet 16 (v := ?v16q14) rfl (by kernel_rfl) (fun _ _ _ h => h) (by assumption) rfl ?hy16q14 ?rest16q14
  case hy16q14 => (intro wS hSw; (try dsimp only at hSw); go_simp; try with_reducible rfl)
  try simp only [Act.put, List.setIfInBounds_toArray, List.set_cons_zero, List.set_cons_succ]
  refine held_quiet 17 (v := ?v17q15) rfl (by kernel_rfl) (fun _ _ _ h => h) (by assumption) rfl ?hy17q15 ?rest17q15
  case hy17q15 => (intro wS hSw; (try dsimp only at hSw); go_simp; try with_reducible rfl)
  try simp only [Act.put, List.setIfInBounds_toArray, List.set_cons_zero, List.set_cons_succ]
  refine held_quiet 18 (v := ?v18q16) rfl (by kernel_rfl) (fun _ _ _ h => h) (by assumption) rfl ?hy18q16 ?rest18q16
  case hy18q16 => (intro wS hSw; (try dsimp only at hSw); go_simp; try with_reducible rfl)
  try simp only [Act.put, List.setIfInBounds_toArray, List.set_cons_zero, List.set_cons_succ]
  refine held_quiet 19 (v := ?v19q17) rfl (by kernel_rfl) (fun _ _ _ h => h) (by assumption) rfl ?hy19q17 ?rest19q17
  case hy19q17 => (intro wS hSw; (try dsimp only at hSw); go_simp; try with_reducible rfl)
  try simp only [Act.put, List.setIfInBounds_toArray, List.set_cons_zero, List.set_cons_succ]
  refine held_two 4 13 rfl rfl (by kernel_rfl) ?_ ?_
  · go_wp2_with (go_at_call 42; refine (HWr.out _ p1 n cL aL).mono ?_; rintro e u1 ⟨rfl, hc4, hb4⟩)
    have S1 := keep_at (p := ⟨rp, 0, none⟩) hb4 d0
    try refine ⟨S1, ?_⟩
    refine held_one 13 rfl (by kernel_rfl) ?_
    go_wp2_with fail
    have S3 := keep_at (p := ⟨rp, 0, none⟩) (show Below u1.heap.size u1 (u1.alloc (.cells #[.string hd] 9)) from ((Below.refl _ _).alloc (Nat.le_refl _) _)) S1
    try refine ⟨S3, ?_⟩
    refine held_one 14 rfl (by kernel_rfl) ?_
    go_wp2_with (go_at_call 42; refine (HWr.out _ p 1 1 _).mono ?_; rintro e u2 ⟨rfl, hc5, hb5⟩)
    have S4 := keep_at (p := ⟨rp, 0, none⟩) hb5 S3
    try refine ⟨S4, ?_⟩
    refine held_one 20 rfl (by kernel_rfl) ?_
    go_wp2_with fail
    have S5 := fun ty x => keep_at (p := ⟨rp, 0, none⟩) (show Below u2.heap.size u2 (u2.alloc (.cells x ty)) from ((Below.refl _ _).alloc (Nat.le_refl _) _)) S4
    try refine ⟨S5 _ _, ?_⟩
    refine held_one 21 rfl (by kernel_rfl) ?_
    have C1 : Below w3.heap.size w3 u1 := below2 (Below.refl w3.heap.size w3).drew hb4
    have C2 : Below w3.heap.size w3 u2 := below2 (below2 C1 ((Below.refl _ _).alloc (Nat.le_refl _) _)) hb5
    have B2 : Below w.heap.size w u2 := below2 HB2.out C2
    have E1 : CloAt u2 w3.heap.size rp (p + 1) aL n cL := by
      have h := hc4.below (below2 ((Below.refl _ _).alloc (Nat.le_refl _) _) hb5)
      rw [HP1.out] at h
      exact h
    have E2 : CloAt u2 (u1.heap.size + 1) rp p (some ⟨u1.heap.size, 0, none⟩) 1 1 := by rw [World.size_alloc] at hc5; exact hc5
    have E3 : RowS u2 (some ⟨u1.heap.size, 0, none⟩) 1 (fun _ => hd) := (text_new u1 hd _).below hb5
    have hz1 := C1.size
    have hz3 := HB2.out.size
    have HFf := fun ty => HFo.out u2 w3.heap.size (u1.heap.size + 1) u1.heap.size cL aL ty B2 (HRs.out.below C2) (fun x hx => ⟨(HLow.out x hx).1, Nat.lt_of_lt_of_le (HLow.out x hx).2 C2.size⟩) E1 E2 E3 (by omega) (by omega) (by omega)
    go_wp2_with (go_at_call 45; refine (HFf _).mono ?_; rintro e w5 ⟨rfl, hp5⟩)
    have S6 := (HR.out.1.only hp5.2 (fun e => HR.out.2.2 e.1)).k0
    try refine ⟨S6, ?_⟩
    refine held_quiet 22 (v := ?v22q18) rfl (by kernel_rfl) (fun _ _ _ h => h) (by assumption) rfl ?hy22q18 ?rest22q18
    case hy22q18 => (intro wS hSw; (try dsimp only at hSw); go_simp; try with_reducible rfl)
    try simp only [Act.put, List.setIfInBounds_toArray, List.set_cons_zero, List.set_cons_succ]
    refine held_done (by kernel_rfl) ?_
    have HP5 : Hid (PEnd w w5 dp (Ri.appS D t c row n f).2 (fun k => F k ∧ k < w.heap.size)) := hp5
    have hg5 : GRing w5 rp dp t c := HR.out.1.only hp5.2 (fun e => HR.out.2.2 e.1)
    have HG5 : Hid (GRing w5 rp dp t c) := hg5
    have HRl : Hid (¬ Plus F w.heap.size rp) := fun e => e.elim HR.out.2.2 (fun x => by have := HR.out.1.lt; omega)
    have z2 := hg5.k2
    have f2 := hg5.fz 2
    have l5 := hg5.lt
    clear hp5 S6 HFf E1 E2 E3 B2 C1 C2 hz1 hz3 S5 S4 S3 S1 hc4 hb4 hc5 hb5 d0 b0 hS hg5
    by_cases hy0 : y = 0
    case neg =>
      have hne : ((y : Int) != 0) = true := by rw [bne_iff_ne]; omega
      have HV : Hid (Ri.appV D t c row n f = 0 ∧ Ri.appC D t c row n f = c) := by
        refine ⟨?_, ?_⟩
        · unfold Ri.appV; rw [← HY.out, if_neg hy0]
        · unfold Ri.appC; rw [← HY.out, if_neg hy0]
      clear hy0
      go_wp2
      go_ret2
      exact ⟨by rw [HV.out.1, ← HY.out]; rfl, HP5.out.1.mono (fun k hk => hk.imp (fun x => x.1) id), by rw [HV.out.2]; exact ⟨HG5.out, HR.out.2.1⟩, HP5.out.2.mono fun k hk => .inl hk.1⟩
    case pos =>
    have hne : ((y : Int) != 0) = false := by rw [bne_eq_false_iff_eq]; omega
    have HV : Hid (Ri.appV D t c row n f = m ∧ Ri.appC D t c row n f = c + 1) := by
      refine ⟨?_, ?_⟩
      · unfold Ri.appV; rw [← HY.out, if_pos hy0, HMm.out]
      · unfold Ri.appC; rw [← HY.out, if_pos hy0]
    have HY0 : Hid (0 = y) := hy0.symm
    clear hy0
    go_wp2
    go_ret2
    refine ⟨by rw [HV.out.1, ← HY.out, ← HY0.out]; rfl, ?_, by rw [HV.out.2]; exact ⟨HG5.out.stored HC1.out, HR.out.2.1⟩, ?_⟩
    · have h1 : DriveAt w5 dp (Ri.appS D t c row n f).2 (Plus F w.heap.size) := HP5.out.1.mono (fun k hk => hk.imp (fun x => x.1) id)
      exact h1.only (Only.setCell (fun x => x = rp) w5 ⟨rp, 2, none⟩ _ rfl) (fun k _ hk e => HRl.out (e ▸ hk))
    · exact (HP5.out.2.mono (G := fun k => F k ∨ H k) fun k hk => .inl hk.1).then (Only.setCell (fun x => F x ∨ H x) w5 ⟨rp, 2, none⟩ _ (.inr HR.out.2.1))
  · go_wp2_with fail
    have S1 := keep_at (p := ⟨rp, 0, none⟩) (show Below w3.drew.heap.size w3.drew (w3.drew.alloc (.cells #[.string hd] 9)) from ((Below.refl _ _).alloc (Nat.le_refl _) _)) d0
    try refine ⟨S1, ?_⟩
    refine held_one 4 rfl (by kernel_rfl) ?_
    go_wp2_with (go_at_call 42; refine (HWr.out _ p1 n cL aL).mono ?_; rintro e u1 ⟨rfl, hc4, hb4⟩)
    have S3 := keep_at (p := ⟨rp, 0, none⟩) hb4 S1
    try refine ⟨S3, ?_⟩
    refine held_one 14 rfl (by kernel_rfl) ?_
    go_wp2_with (go_at_call 42; refine (HWr.out _ p 1 1 _).mono ?_; rintro e u2 ⟨rfl, hc5, hb5⟩)
    have S4 := keep_at (p := ⟨rp, 0, none⟩) hb5 S3
    try refine ⟨S4, ?_⟩
    refine held_one 20 rfl (by kernel_rfl) ?_
    go_wp2_with fail
    have S5 := fun ty x => keep_at (p := ⟨rp, 0, none⟩) (show Below u2.heap.size u2 (u2.alloc (.cells x ty)) from ((Below.refl _ _).alloc (Nat.le_refl _) _)) S4
    try refine ⟨S5 _ _, ?_⟩
    refine held_one 21 rfl (by kernel_rfl) ?_
    have C1 : Below w3.heap.size w3 u1 := below2 (below2 (Below.refl w3.heap.size w3).drew ((Below.refl _ _).alloc (Nat.le_refl _) _)) hb4
    have C2 : Below w3.heap.size w3 u2 := below2 C1 hb5
    have B2 : Below w.heap.size w u2 := below2 HB2.out C2
    have E1 : CloAt u2 (w3.heap.size + 1) rp (p + 1) aL n cL := by
      have h := hc4.below hb5
      rw [HP1.out] at h
      rw [show (World.drew (w3.alloc (.cells #[.string hd] 9))).heap.size = w3.heap.size + 1 from World.size_alloc _ _] at h
      exact h
    have E2 : CloAt u2 u1.heap.size rp p (some ⟨w3.heap.size, 0, none⟩) 1 1 := hc5
    have E3 : RowS u2 (some ⟨w3.heap.size, 0, none⟩) 1 (fun _ => hd) := ((text_new w3.drew hd _).below hb4).below hb5
    have hz1 := C1.size
    have hz3 := HB2.out.size
    have HFf := fun ty => HFo.out u2 (w3.heap.size + 1) u1.heap.size w3.heap.size cL aL ty B2 (HRs.out.below C2) (fun x hx => ⟨(HLow.out x hx).1, Nat.lt_of_lt_of_le (HLow.out x hx).2 C2.size⟩) E1 E2 E3 (by omega) (by omega) (by omega)
    go_wp2_with (go_at_call 45; refine (HFf _).mono ?_; rintro e w5 ⟨rfl, hp5⟩)
    have S6 := (HR.out.1.only hp5.2 (fun e => HR.out.2.2 e.1)).k0
    try refine ⟨S6, ?_⟩
    refine held_quiet 22 (v := ?v22q19) rfl (by kernel_rfl) (fun _ _ _ h => h) (by assumption) rfl ?hy22q19 ?rest22q19
    case hy22q19 => (intro wS hSw; (try dsimp only at hSw); go_simp; try with_reducible rfl)
    try simp only [Act.put, List.setIfInBounds_toArray, List.set_cons_zero, List.set_cons_succ]
    refine held_done (by kernel_rfl) ?_
    have HP5 : Hid (PEnd w w5 dp (Ri.appS D t c row n f).2 (fun k => F k ∧ k < w.heap.size)) := hp5
    have hg5 : GRing w5 rp dp t c := HR.out.1.only hp5.2 (fun e => HR.out.2.2 e.1)
    have HG5 : Hid (GRing w5 rp dp t c) := hg5
    have HRl : Hid (¬ Plus F w.heap.size rp) := fun e => e.elim HR.out.2.2 (fun x => by have := HR.out.1.lt; omega)
    have z2 := hg5.k2
    have f2 := hg5.fz 2
    have l5 := hg5.lt
    clear hp5 S6 HFf E1 E2 E3 B2 C1 C2 hz1 hz3 S5 S4 S3 S1 hc4 hb4 hc5 hb5 d0 b0 hS hg5
    by_cases hy0 : y = 0
    case neg =>
      have hne : ((y : Int) != 0) = true := by rw [bne_iff_ne]; omega
      have HV : Hid (Ri.appV D t c row n f = 0 ∧ Ri.appC D t c row n f = c) := by
        refine ⟨?_, ?_⟩
        · unfold Ri.appV; rw [← HY.out, if_neg hy0]
        · unfold Ri.appC; rw [← HY.out, if_neg hy0]
      clear hy0
      go_wp2
      go_ret2
      exact ⟨by rw [HV.out.1, ← HY.out]; rfl, HP5.out.1.mono (fun k hk => hk.imp (fun x => x.1) id), by rw [HV.out.2]; exact ⟨HG5.out, HR.out.2.1⟩, HP5.out.2.mono fun k hk => .inl hk.1⟩
    case pos =>
    have hne : ((y : Int) != 0) = false := by rw [bne_eq_false_iff_eq]; omega
    have HV : Hid (Ri.appV D t c row n f = m ∧ Ri.appC D t c row n f = c + 1) := by
      refine ⟨?_, ?_⟩
      · unfold Ri.appV; rw [← HY.out, if_pos hy0, HMm.out]
      · unfold Ri.appC; rw [← HY.out, if_pos hy0]
    have HY0 : Hid (0 = y) := hy0.symm
    clear hy0
    go_wp2
    go_ret2
    refine ⟨by rw [HV.out.1, ← HY.out, ← HY0.out]; rfl, ?_, by rw [HV.out.2]; exact ⟨HG5.out.stored HC1.out, HR.out.2.1⟩, ?_⟩
    · have h1 : DriveAt w5 dp (Ri.appS D t c row n f).2 (Plus F w.heap.size) := HP5.out.1.mono (fun k hk => hk.imp (fun x => x.1) id)
      exact h1.only (Only.setCell (fun x => x = rp) w5 ⟨rp, 2, none⟩ _ rfl) (fun k _ hk e => HRl.out (e ▸ hk))
    · exact (HP5.out.2.mono (G := fun k => F k ∨ H k) fun k hk => .inl hk.1).then (Only.setCell (fun x => F x ∨ H x) w5 ⟨rp, 2, none⟩ _ (.inr HR.out.2.1))
end
end Go.Proofs.YtjmeiifogblmoaaGreatDoor

namespace Go.Proofs.YtjmeiifogblmoaaGreatDoor
open Go.RowKit

theorem info_func13 : (Tryz.prog.info? 78).map (fun i => (i.zero, i.size, i.bytes)) = some (some .nilFunc, 1, 8) := by kernel_rfl
theorem slots_le {D : Dr} (h : D.safe.length ≤ 4096) : Ri.slots D.safe.length ≤ 100 := by unfold Ri.slots; omega
def natW (B : Nat → Nat) (k b : Nat) : Nat → Nat := fun j => if j = k then b else B j
theorem natW_same (B : Nat → Nat) (k b : Nat) : natW B k b k = b := if_pos rfl
theorem natW_other (B : Nat → Nat) {k j : Nat} (b : Nat) (h : j ≠ k) : natW B k b j = B j := if_neg h
/-- the closures so far -/
def cloVals (B : Nat → Nat) : Nat → List Value
  | 0 => []
  | k + 1 => cloVals B k ++ [cloV (B k)]
theorem cloVals_congr {B C : Nat → Nat} : ∀ {k}, (∀ j, j < k → B j = C j) → cloVals B k = cloVals C k
  | 0, _ => rfl
  | k + 1, h => by rw [cloVals, cloVals, cloVals_congr (fun j hj => h j (by omega)), h k (by omega)]
theorem cloVals_length (B : Nat → Nat) : ∀ k, (cloVals B k).length = k
  | 0 => rfl
  | k + 1 => by rw [cloVals, List.length_append, cloVals_length B k]; rfl
theorem cloVals_at (B : Nat → Nat) : ∀ {k j}, j < k → (cloVals B k)[j]? = some (cloV (B j))
  | 0, j, h => absurd h (Nat.not_lt_zero _)
  | k + 1, j, h => by
    rw [cloVals]
    by_cases e : j < k
    · rw [List.getElem?_append_left (by rw [cloVals_length]; exact e)]
      exact cloVals_at B e
    · have : j = k := by omega
      subst this
      rw [List.getElem?_append_right (by rw [cloVals_length]; exact Nat.le_refl _), cloVals_length, Nat.sub_self]; rfl
theorem cloVals_next (B : Nat → Nat) (k b : Nat) : cloVals (natW B k b) (k + 1) = cloVals B k ++ [cloV b] := by
  rw [cloVals, natW_same, cloVals_congr (fun j hj => natW_other B b (by omega))]
/-- the closures so far lie apart from the row that names them -/
def Clos (W : World) (base rr : Nat) (z : ByteArray) (v : Value) (B G : Nat → Nat) (k : Nat) : Prop :=
  ∀ j, j < k → CloAt W (B j) rr (4 + 41 * j) (some ⟨G j, 0, none⟩) 1 1 ∧ RowS W (some ⟨G j, 0, none⟩) 1 (fun _ => z) ∧ base ≤ B j ∧ base ≤ G j ∧ ∀ y, v.ownBlock = some y → y ≠ B j ∧ y ≠ B j + 1 ∧ y ≠ B j + 2 ∧ y ≠ G j
theorem RowS.one_lt {w : World} {g : Nat} {f : Nat → ByteArray} (h : RowS w (some ⟨g, 0, none⟩) 1 f) : g < w.heap.size := by
  obtain ⟨bb, o, e0, hcell⟩ := h 0 (by decide)
  have e1 : g = bb := by injection e0 with e0; injection e0
  rw [e1]; exact World.block_lt_of_cell? w _ hcell
theorem RowS.one_only {w w' : World} {g : Nat} {f : Nat → ByteArray} {F : Nat → Prop} (h : RowS w (some ⟨g, 0, none⟩) 1 f) (ho : Only F w w') (hn : ¬ F g) : RowS w' (some ⟨g, 0, none⟩) 1 f := fun j hj => by
  obtain ⟨bb, o, e, hcell⟩ := h j hj
  have e1 : g = bb := by injection e with e0; injection e0
  exact ⟨bb, o, e, (World.cell?_of_block (w := w) (a := ⟨bb, o + j, none⟩) (ho.block bb (World.block_lt_of_cell? w _ hcell) (e1 ▸ hn))).trans hcell⟩
theorem Clos.grow {base rr t k cO c' b g0 g : Nat} {W w8 wa w10 : World} {z : ByteArray} {aO : Option Addr} {B G : Nat → Nat} {xs : List Value}
    (h : Clos W base rr z (.slice aO k cO) B G k) (own : W.ownsRow base t 1 (.slice aO k cO) k xs) (hbs : base ≤ W.heap.size) (hb8 : Below W.heap.size W w8)
    (hc : CloAt w8 b rr (4 + 41 * k) (some ⟨g0, 0, none⟩) 1 1) (hr : RowS w8 (some ⟨g0, 0, none⟩) 1 (fun _ => z)) (hb : W.heap.size ≤ b) (hg0 : W.heap.size ≤ g0) (ha : Below w8.heap.size w8 wa)
    (hg : wa.grownBy w10 (Value.slice aO k cO).ownBlock) (hl : (Value.slice aO k cO).ownBlock = some g ∨ g = wa.heap.size) :
    Clos w10 base rr z (.slice (some ⟨g, 0, none⟩) (k + 1) c') (natW B k b) (natW G k g0) (k + 1) ∧ Below base W w10 := by
  have hsz := hb8.size
  have hsa := ha.size
  have hs10 := hg.size
  have hlow := own.lt
  have ho := Only.of_grown hg (fun b => (Value.slice aO k cO).ownBlock = some b) (fun _ e => e)
  have hba : Below base W wa := (hb8.mono hbs).trans (ha.mono (by omega))
  have hg' : ∀ y, (Value.slice (some ⟨g, 0, none⟩) (k + 1) c').ownBlock = some y → (Value.slice aO k cO).ownBlock = some y ∨ y = wa.heap.size := fun y e => by
    have e' : g = y := by injection e
    rw [← e']
    exact hl
  have hcl := hc.lt
  have hgl := hr.one_lt
  refine ⟨fun j hj => ?_, hba.grown hg (by omega) fun y hy => (hlow y hy).1⟩
  by_cases e : j = k
  · subst e
    rw [natW_same, natW_same]
    refine ⟨(hc.below ha).only ho (fun e => by have := hlow _ e; omega) (fun e => by have := hlow _ e; omega) (fun e => by have := hlow _ e; omega), (hr.below ha).one_only ho (fun e => by have := hlow _ e; omega), by omega, by omega, fun y hy => ?_⟩
    rcases hg' y hy with e | e
    · have := hlow _ e; omega
    · omega
  · rw [natW_other B _ e, natW_other G _ e]
    obtain ⟨h1, h2, h3, h4, h5⟩ := h j (by omega)
    have l1 := h1.lt
    have l2 := h2.one_lt
    refine ⟨((h1.below hb8).below ha).only ho (fun e => (h5 _ e).1 rfl) (fun e => (h5 _ e).2.1 rfl) (fun e => (h5 _ e).2.2.1 rfl), ((h2.below hb8).below ha).one_only ho (fun e => (h5 _ e).2.2.2 rfl), h3, h4, fun y hy => ?_⟩
    rcases hg' y hy with e | e
    · exact h5 y e
    · omega
theorem Clos.keep {base rr t k cO : Nat} {W wa w10 : World} {z : ByteArray} {aO : Option Addr} {B G : Nat → Nat} {xs : List Value}
    (h : Clos W base rr z (.slice aO k cO) B G k) (_own : W.ownsRow base t 1 (.slice aO k cO) k xs) (ha : Below W.heap.size W wa) (hg : wa.grownBy w10 (Value.slice aO k cO).ownBlock) :
    ∀ j, j < k → CloAt w10 (B j) rr (4 + 41 * j) (some ⟨G j, 0, none⟩) 1 1 ∧ RowS w10 (some ⟨G j, 0, none⟩) 1 (fun _ => z) ∧ base ≤ B j ∧ base ≤ G j := fun j hj => by
  have ho := Only.of_grown hg (fun b => (Value.slice aO k cO).ownBlock = some b) (fun _ e => e)
  obtain ⟨h1, h2, h3, h4, h5⟩ := h j hj
  exact ⟨(h1.below ha).only ho (fun e => (h5 _ e).1 rfl) (fun e => (h5 _ e).2.1 rfl) (fun e => (h5 _ e).2.2.1 rfl), (h2.below ha).one_only ho (fun e => (h5 _ e).2.2.2 rfl), h3, h4⟩
theorem news2f (w : World) (x y : Value) (t : TypeId) : ∀ j u, [x, y][j]? = some u → (w.alloc (.cells #[x, y] t)).cell? ((⟨w.heap.size, 0, none⟩ : Addr).add j) = some u := World.news_of_block (heap_alloc_new w _)
/-- the steps of a Format -/
def fmStp (N b g : Nat) (z m : ByteArray) (B G : Nat → Nat) (j : Nat) : Stp := if j < N then .wr (B j) (4 + 41 * j) 1 1 (some ⟨G j, 0, none⟩) (fun _ => z) else if j = N then .wr b 3 1 1 (some ⟨g, 0, none⟩) (fun _ => m) else .fl
theorem fmStp_do (N b g : Nat) (z m : ByteArray) (B G : Nat → Nat) (x : Nat × Dr) : ∀ {k}, k ≤ N → doTo (fmStp N b g z m B G) x k = Dr.wrTo x (fun i => 4 + 41 * i) (fun _ => z.data.toList) k
  | 0, _ => rfl
  | k + 1, h => by
    show (fmStp N b g z m B G k).does (doTo (fmStp N b g z m B G) x k) = _
    rw [fmStp_do N b g z m B G x (by omega)]
    unfold fmStp
    rw [if_pos (by omega)]
    rfl
theorem fmStp_all (N b g : Nat) (z m : ByteArray) (B G : Nat → Nat) (x : Nat × Dr) : doTo (fmStp N b g z m B G) x (N + 2) = Dr.fl1 (Dr.wr1 (Dr.wrTo x (fun i => 4 + 41 * i) (fun _ => z.data.toList) N) 3 m.data.toList) := by
  show (fmStp N b g z m B G (N + 1)).does ((fmStp N b g z m B G N).does (doTo (fmStp N b g z m B G) x N)) = _
  rw [fmStp_do N b g z m B G x (Nat.le_refl _)]
  unfold fmStp
  rw [if_neg (by omega), if_neg (by omega), if_neg (Nat.lt_irrefl _), if_pos rfl]
  rfl
/-- the row of a Format's steps, at last -/
theorem fm_row {w10 : World} {base t k g' c' b : Nat} {B : Nat → Nat} {dp : Nat} (N : Nat) (hN : N = k) (g : Nat) (z m : ByteArray) (G : Nat → Nat) (h : w10.ownsRow base t 1 (.slice (some ⟨g', 0, none⟩) (k + 2) c') (k + 2) (cloVals B k ++ [cloV b, flushV dp])) {F : Nat → Prop} (hF : ∀ x, F x → x < base) :
    ∀ j, j < k + 2 → ∃ blk off, (some ⟨g', 0, none⟩ : Option Addr) = some ⟨blk, off, none⟩ ∧ w10.cell? ⟨blk, off + j, none⟩ = some ((fmStp N b g z m B G j).fv dp).v ∧ ¬ F blk := fun j hj => by
  have hb := h.lt g' rfl
  refine ⟨g', 0, rfl, ?_, fun e => by have := hF _ e; omega⟩
  have key : ∀ u, (cloVals B k ++ [cloV b, flushV dp])[j]? = some u → w10.cell? ⟨g', 0 + j, none⟩ = some u := fun u hu => by
    have hc := h.cells (g := g') rfl j u hu
    have hadd : (⟨g', 0, none⟩ : Addr).add j = ⟨g', 0 + j, none⟩ := by unfold Addr.add; split <;> simp_all
    rw [hadd] at hc
    exact hc
  apply key
  subst hN
  unfold fmStp
  by_cases e : j < N
  · rw [if_pos e, List.getElem?_append_left (by rw [cloVals_length]; exact e), cloVals_at B e]; rfl
  · rw [if_neg e, List.getElem?_append_right (by rw [cloVals_length]; omega), cloVals_length]
    by_cases e2 : j = N
    · rw [if_pos e2, e2, Nat.sub_self]; rfl
    · rw [if_neg e2, show j - N = 1 by omega]; rfl
section
variable {w : World} {dp : Nat} {D : Dr} {F : Nat → Prop}
set_option maxRecDepth 100000 in
set_option maxHeartbeats 1000000 in
theorem gFormat_none (h : DriveAt w dp D F) (hs : Ri.slots D.safe.length = 0) : Calls Tryz.prog 12 #[.pointer (some ⟨dp, 0, none⟩)] w fun e w' => e = .returned (.int .i64 ((Ri.formatS D).1 : Nat)) ∧ DriveAt w' dp (Ri.formatS D).2 (Plus F w.heap.size) ∧ Only F w w' := by
  have HA : Hid (Ri.formatS D = (1, D)) := if_pos hs
  have hle := h.le
  have hS := Sectors_any h
  have hL := fun W => Slots_any D.safe.length (by omega) W
  rw [hs] at hL
  obtain ⟨n, hn⟩ : ∃ n, n = D.safe.length := ⟨_, rfl⟩
  rw [← hn] at hL hS
  have HH : Hid (DriveAt w dp D F) := h
  clear h hle hn hs
  go_enter Tryz.func12, Tryz.ntmps12
  go_wp2_with fail
  refine hS.mono ?_
  rintro e w1 ⟨rfl, rfl⟩
  go_wp2_with fail
  refine (hL _).mono ?_
  rintro e w1 ⟨rfl, rfl⟩
  go_wp2
  go_ret
  exact ⟨by rw [HA.out]; rfl, by rw [HA.out]; exact HH.out.mono fun _ hk => .inl hk, Only.refl _ _⟩
set_option maxRecDepth 100000 in
set_option maxHeartbeats 4000000 in
theorem gFormat_some (h : DriveAt w dp D F) (hf : D.Few 900000) (hs : 0 < Ri.slots D.safe.length) : Calls Tryz.prog 12 #[.pointer (some ⟨dp, 0, none⟩)] w fun e w' => e = .returned (.int .i64 ((Ri.formatS D).1 : Nat)) ∧ DriveAt w' dp (Ri.formatS D).2 (Plus F w.heap.size) ∧ Only F w w' := by
  have hle := h.le
  have hfew := slots_few h
  have hS := Sectors_any h
  have hL := fun W => Slots_any D.safe.length (by omega) W
  have HA : Hid (Ri.formatS D = Dr.fl1 (Dr.wr1 (Dr.wrTo (0, D) (fun i => 4 + 41 * i) (fun _ => List.replicate 64 0) (Ri.slots D.safe.length)) 3 (Ri.markB 0).data.toList)) := by show _ = _; unfold Ri.formatS; rw [if_neg (by omega)]
  obtain ⟨N, hN⟩ : ∃ N, N = Ri.slots D.safe.length := ⟨_, rfl⟩
  rw [← hN] at hL hs hfew HA
  obtain ⟨n, hn⟩ : ∃ n, n = D.safe.length := ⟨_, rfl⟩
  rw [← hn] at hL hS
  have HD : Hid (DriveAt w dp D (fun k => F k ∧ k < w.heap.size)) := h.tight
  have HFe : Hid (D.Few 900000) := hf
  have hRp : ∀ W, Calls Tryz.prog 44 #[.string ⟨#[0]⟩, .int .i64 64] W fun e w' => e = .returned (.string ⟨(List.replicate 64 0).toArray⟩) ∧ Below W.heap.size W w' := fun W => by
    have := Tryz.strings_Repeat ⟨#[0]⟩ 64 W (by decide) (by decide)
    rw [show Lib.repeatL (⟨#[0]⟩ : ByteArray).data.toList 64 = List.replicate 64 0 from repeat_zero 64] at this
    exact this
  obtain ⟨z, hz⟩ : ∃ z : ByteArray, z = ⟨(List.replicate 64 0).toArray⟩ := ⟨_, rfl⟩
  have HZ : Hid (z.data.toList = List.replicate 64 0 ∧ z.size = 64) := by
    have e : z.data.toList = List.replicate 64 0 := by rw [hz]
    exact ⟨e, by rw [← Pg.list_size, e]; rfl⟩
  rw [← hz] at hRp
  have HRp : Hid _ := hRp
  have hMk : ∀ W, Calls Tryz.prog 46 #[.int .u64 0] W fun e w' => e = .returned (.string (Ri.markB 0)) ∧ Below W.heap.size W w' := fun W => gmark_any 0 (by decide) W
  obtain ⟨mk, hmk⟩ : ∃ mk, mk = Ri.markB 0 := ⟨_, rfl⟩
  have HMz : Hid (mk = Ri.markB 0 ∧ mk.size = 64) := ⟨hmk, by rw [hmk]; exact Ri.markB_size (by decide)⟩
  rw [← hmk] at hMk
  have HMk : Hid (∀ W, Calls Tryz.prog 46 #[.int .u64 0] W fun e w' => e = .returned (.string mk) ∧ Below W.heap.size W w') := hMk
  have HW3 : Hid (∀ W n cap a rp, Calls Tryz.prog 42 #[.pointer (some ⟨rp, 0, none⟩), .int .i64 3, .slice a n cap] W fun e w' => e = .returned (.func (.func 77) #[] #[.pointer (some ⟨W.heap.size + 2, 0, none⟩), .pointer (some ⟨W.heap.size, 0, none⟩), .pointer (some ⟨W.heap.size + 1, 0, none⟩)]) ∧ CloAt w' W.heap.size rp 3 a n cap ∧ Below W.heap.size W w') := fun W n cap a rp => writing_any rp 3 n cap a W
  have HWr : Hid (∀ W q n cap a rp, Calls Tryz.prog 42 #[.pointer (some ⟨rp, 0, none⟩), .int .i64 (q : Nat), .slice a n cap] W fun e w' => e = .returned (.func (.func 77) #[] #[.pointer (some ⟨W.heap.size + 2, 0, none⟩), .pointer (some ⟨W.heap.size, 0, none⟩), .pointer (some ⟨W.heap.size + 1, 0, none⟩)]) ∧ CloAt w' W.heap.size rp q a n cap ∧ Below W.heap.size W w') := fun W q n cap a rp => writing_any rp q n cap a W
  have hN0 : ((N : Int) == 0) = false := by rw [beq_eq_false_iff_ne]; omega
  obtain ⟨i0, hi, hz0, hz1, hz2⟩ := info_parts info_func13
  clear h hf hle hn hN hz hs hRp hMk hmk
  go_enter Tryz.func12, Tryz.ntmps12
  go_wp2_with fail
  refine hS.mono ?_
  rintro e w1 ⟨rfl, rfl⟩
  go_wp2_with fail
  refine (hL _).mono ?_
  rintro e w1 ⟨rfl, rfl⟩
  go_upto_region 5 with fail
  obtain ⟨w3, hw3⟩ : ∃ w3, w3 = w1.alloc (.cells #[.pointer (some ⟨dp, 0, none⟩), .int .u64 0, .int .u64 0] 90) := ⟨_, rfl⟩
  obtain ⟨rr, hrr⟩ : ∃ rr, rr = w1.heap.size := ⟨_, rfl⟩
  have hr3 : GRing w3 rr dp 0 0 := by rw [hw3, hrr]; exact gring_new w1 dp 0
  have b3 : Below w1.heap.size w1 w3 := by rw [hw3]; exact (Below.refl _ w1).alloc (Nat.le_refl _) _
  have HR3 : Hid (GRing w3 rr dp 0 0) := hr3
  have HB3 : Hid (Below w1.heap.size w1 w3) := b3
  have HLt : Hid (w1.heap.size ≤ rr ∧ rr < w3.heap.size) := ⟨by rw [hrr]; exact Nat.le_refl _, hr3.lt⟩
  rw [← hw3, ← hrr]
  clear hr3 b3 hw3 hrr hL hS
  go_wp2
  go_loopg [5, 6, 16] N (fun gg v u6 i wr => ∃ (k : Nat) (u : Value) (B G : Nat → Nat), k ≤ N ∧ gg = N - k ∧ u = v ∧ i = .int .i64 (k : Int) ∧ wr.ownsRow w3.heap.size 78 1 u k (cloVals B k) ∧ Clos wr w3.heap.size rr z u B G k ∧ Below w3.heap.size w3 wr)
  case atStart => exact ⟨0, _, fun _ => 0, fun _ => 0, Nat.zero_le _, rfl, rfl, rfl, World.ownsRow_nil _ _ _ _, fun j hj => absurd hj (Nat.not_lt_zero _), Below.refl _ _⟩
  case round =>
  obtain ⟨k, u, B, G, hk, rfl, rfl, rfl, hown, hclo, hb⟩ := hrel
  obtain ⟨aO, cO, rfl, _⟩ := own_head hown
  have HBr : Hid (Below w3.heap.size w3 wr) := hb
  have OWN : Hid (wr.ownsRow w3.heap.size 78 1 (.slice aO k cO) k (cloVals B k)) := hown
  have HCl : Hid (Clos wr w3.heap.size rr z (.slice aO k cO) B G k) := hclo
  have hsz := hb.size
  clear hown hclo hb
  by_cases hlt : k < N
  case neg =>
    have hkn : k = N := by omega
    have g0 := HR3.out.below HBr.out
    have d0 : wr.drew.cell? ⟨rr, 0, none⟩ = some (.pointer (some ⟨dp, 0, none⟩)) := g0.k0
    have HN2 : Hid (N = k ∧ k ≤ 100) := ⟨hkn.symm, by omega⟩
    have HB1 : Hid (Below w3.heap.size w3 wr) := HBr.out
    have hmx : Tryz.prog.follows .mixedOrders = true := by kernel_rfl
    have hk100 : k ≤ 100 := by omega
    clear g0 hk hkn
    go_upto_region 11 with fail
    refine wp_region_held (S := fun W => W.cell? ⟨rr, 0, none⟩ = some (.pointer (some ⟨dp, 0, none⟩))) hmx ?_
    have hS : (fun W : World => W.cell? ⟨rr, 0, none⟩ = some (.pointer (some ⟨dp, 0, none⟩))) wr.drew := d0
    change wpAnyH _ _ _ _ _ _ _ _ wr.drew
    refine held_quiet 0 (v := ?v0q1) rfl (by kernel_rfl) (fun _ _ _ h => h) (by assumption) rfl ?hy0q1 ?rest0q1
    case hy0q1 => (intro wS hSw; (try dsimp only at hSw); go_simp; try with_reducible rfl)
    try simp only [Act.put, List.setIfInBounds_toArray, List.set_cons_zero, List.set_cons_succ]
    refine held_quiet 1 (v := ?v1q2) rfl (by kernel_rfl) (fun _ _ _ h => h) (by assumption) rfl ?hy1q2 ?rest1q2
    case hy1q2 => (intro wS hSw; (try dsimp only at hSw); go_simp; try with_reducible rfl)
    try simp only [Act.put, List.setIfInBounds_toArray, List.set_cons_zero, List.set_cons_succ]
    refine held_quiet 5 (v := ?v5q3) rfl (by kernel_rfl) (fun _ _ _ h => h) (by assumption) rfl ?hy5q3 ?rest5q3
    case hy5q3 => (intro wS hSw; (try dsimp only at hSw); go_simp; try with_reducible rfl)
    try simp only [Act.put, List.setIfInBounds_toArray, List.set_cons_zero, List.set_cons_succ]
    refine held_quiet 6 (v := ?v6q4) rfl (by kernel_rfl) (fun _ _ _ h => h) (by assumption) rfl ?hy6q4 ?rest6q4
    case hy6q4 => (intro wS hSw; (try dsimp only at hSw); go_simp; try with_reducible rfl)
    try simp only [Act.put, List.setIfInBounds_toArray, List.set_cons_zero, List.set_cons_succ]
    refine held_quiet 7 (v := ?v7q5) rfl (by kernel_rfl) (fun _ _ _ h => h) (by assumption) rfl ?hy7q5 ?rest7q5
    case hy7q5 => (intro wS hSw; (try dsimp only at hSw); go_simp; try with_reducible rfl)
    try simp only [Act.put, List.setIfInBounds_toArray, List.set_cons_zero, List.set_cons_succ]
    refine held_quiet 8 (v := ?v8q6) rfl (by kernel_rfl) (fun _ _ _ h => h) (by assumption) rfl ?hy8q6 ?rest8q6
    case hy8q6 => (intro wS hSw; (try dsimp only at hSw); go_simp; try with_reducible rfl)
    try simp only [Act.put, List.setIfInBounds_toArray, List.set_cons_zero, List.set_cons_succ]
    refine held_quiet 9 (v := ?v9q7) rfl (by kernel_rfl) (fun _ _ _ h => h) (by assumption) rfl ?hy9q7 ?rest9q7
    case hy9q7 => (intro wS hSw; (try dsimp only at hSw); go_simp; try with_reducible rfl)
    try simp only [Act.put, List.setIfInBounds_toArray, List.set_cons_zero, List.set_cons_succ]
    refine held_one 2 rfl (by kernel_rfl) ?_
    go_wp2_with (go_at_call 46; refine (HMk.out _).mono ?_; rintro e u2 ⟨rfl, hb2⟩)
    have S2 := keep_at (p := ⟨rr, 0, none⟩) hb2 d0
    try refine ⟨S2, ?_⟩
    refine held_one 3 rfl (by kernel_rfl) ?_
    go_wp2_with fail
    have S3 := keep_at (p := ⟨rr, 0, none⟩) (show Below u2.heap.size u2 (u2.alloc (.cells #[.string mk] 9)) from ((Below.refl _ _).alloc (Nat.le_refl _) _)) S2
    try refine ⟨S3, ?_⟩
    refine held_one 4 rfl (by kernel_rfl) ?_
    go_wp2_with (go_at_call 42; refine (HW3.out _ 1 1 _ rr).mono ?_; rintro e u4 ⟨rfl, hc4, hb4⟩)
    have S4 := keep_at (p := ⟨rr, 0, none⟩) hb4 S3
    try refine ⟨S4, ?_⟩
    have C4 : Below wr.heap.size wr u4 := below2 (below2 (below2 (Below.refl wr.heap.size wr).drew hb2) ((Below.refl _ _).alloc (Nat.le_refl _) _)) hb4
    rw [World.size_alloc] at hc4
    have E2 : RowS u4 (some ⟨u2.heap.size, 0, none⟩) 1 (fun _ => mk) := (text_new u2 mk _).below hb4
    have hzu2 : wr.heap.size ≤ u2.heap.size := (below2 (Below.refl wr.heap.size wr).drew hb2).size
    have OWN4 := ownsRow_below OWN.out C4
    have hzu4 : w3.heap.size ≤ u4.heap.size := Nat.le_trans hsz C4.size
    refine held_one 10 rfl (by kernel_rfl) ?_
    go_wp2_with fail
    have S5 := fun ty x => keep_at (p := ⟨rr, 0, none⟩) (show Below u4.heap.size u4 (u4.alloc (.cells x ty)) from ((Below.refl _ _).alloc (Nat.le_refl _) _)) S4
    try refine ⟨S5 _ _, ?_⟩
    refine held_one 11 rfl (by kernel_rfl) ?_
    have AL4 : Below u4.heap.size u4 (u4.alloc (.cells #[cloV (u2.heap.size + 1), flushV dp] 78)) := (Below.refl _ _).alloc (Nat.le_refl _) _
    refine wpList_append_lies _ rfl _ _ 91 rfl w3.heap.size 78 i0 .nilFunc 1 8 Tryz.underlying91 hi hz0 hz1 hz2 rfl (by decide) (.slice aO k cO) k (cloVals B k) rfl (OWN4.alloc _) ⟨u4.heap.size, 0, none⟩ 2 2 [cloV (u2.heap.size + 1), flushV dp] rfl rfl (news2f _ _ _ _) (by simp [Value.oneCell', cloV, flushV]) (by decide) (by unfold maxLen; omega) (by omega) (by simp; omega) _ rfl ?_
    intro g' c' w10 hown' hgrow hlies hglt
    have hkeep := HCl.out.keep OWN.out (below2 C4 AL4) hgrow
    have hon := Only.of_grown hgrow (fun b => (Value.slice aO k cO).ownBlock = some b) (fun _ e => e)
    have hlow := OWN.out.lt
    have hl4 := hc4.lt
    have E1 : CloAt w10 (u2.heap.size + 1) rr 3 (some ⟨u2.heap.size, 0, none⟩) 1 1 := (hc4.below AL4).only hon (fun e => by have := hlow _ e; omega) (fun e => by have := hlow _ e; omega) (fun e => by have := hlow _ e; omega)
    have E3 : RowS w10 (some ⟨u2.heap.size, 0, none⟩) 1 (fun _ => mk) := (E2.below AL4).one_only hon (fun e => by have := hlow _ e; omega)
    have B10 : Below w3.heap.size wr w10 := ((below2 C4 AL4).mono hsz).grown hgrow (Nat.le_trans hzu4 AL4.size) (fun y hy => (hlow y hy).1)
    have B1 : Below w1.heap.size w1 w10 := (HB3.out.trans (HB1.out.mono HB3.out.size)).trans (B10.mono HB3.out.size)
    have hg10 : GRing w10 rr dp 0 0 := (B10.block rr HLt.out.2).trans (HR3.out.below HBr.out)
    have HP10 : Hid (DriveAt w10 dp D (fun k => F k ∧ k < w1.heap.size)) := HD.out.below B1
    have hst := dsteps_any (w := w10) (n := k + 2) (cap := c') (a := some ⟨g', 0, none⟩) (fmStp N (u2.heap.size + 1) u2.heap.size z mk B G) HP10.out hg10 (fun e => by have := e.2; have := HLt.out; omega) HFe.out (by omega) (fun j hj => ?_) (fm_row N HN2.out.1 u2.heap.size z mk G hown' (fun x hx => by have := hx.2; have := HB3.out.size; omega))
    have HSt : Hid (Ri.formatS D = doTo (fmStp N (u2.heap.size + 1) u2.heap.size z mk B G) (0, D) (k + 2)) := by
      show _ = _
      rw [← HN2.out.1, fmStp_all, HA.out, HZ.out.1, HMz.out.1]
    rw [← HSt.out] at hst
    have S6 := hg10.k0
    try refine ⟨S6, ?_⟩
    refine held_one 12 rfl (by kernel_rfl) ?_
    go_wp2_with (go_at_call 45; refine hst.mono ?_; rintro e w11 ⟨rfl, hp11⟩)
    have S7 := (hg10.only hp11.2 (fun e => by have := e.2; have := HLt.out; omega)).k0
    have HE : Hid (DriveAt w11 dp (Ri.formatS D).2 (Plus F w1.heap.size) ∧ Only F w1 w11) :=
      ⟨hp11.1.mono (fun k hk => hk.elim (fun x => .inl x.1) (fun x => .inr (Nat.le_trans B1.size x))), (Only.of_below B1 F).then (hp11.2.mono fun k hk => hk.1)⟩
    try refine ⟨S7, ?_⟩
    refine held_quiet 13 (v := ?v13q8) rfl (by kernel_rfl) (fun _ _ _ h => h) (by assumption) rfl ?hy13q8 ?rest13q8
    case hy13q8 => (intro wS hSw; (try dsimp only at hSw); go_simp; try with_reducible rfl)
    try simp only [Act.put, List.setIfInBounds_toArray, List.set_cons_zero, List.set_cons_succ]
    refine held_done (by kernel_rfl) ?_
    clear hst hp11 hkeep hon hlow hl4 E1 E2 E3 B10 B1 hown' hgrow hlies hglt hc4 hb4 hb2 C4 AL4
    go_wp2
    go_ret
    exact ⟨rfl, HE.out⟩
    · unfold fmStp
      by_cases e : j < N
      · rw [if_pos e]
        obtain ⟨q1, q2, q3, q4⟩ := hkeep j (by have := HN2.out; omega)
        have := HB3.out.size
        exact ⟨q1, q2, fun _ _ => HZ.out.2, by decide, by have := HN2.out; omega, fun e => by have := e.2; omega, fun e => by have := e.2; omega, fun e => by have := e.2; omega, fun x hx => by cases hx; exact ⟨fun e => by have := e.2; dsimp only at this; omega, q2.one_lt⟩⟩
      · rw [if_neg e]
        by_cases e2 : j = N
        · rw [if_pos e2]
          have := HB3.out.size
          exact ⟨E1, E3, fun _ _ => HMz.out.2, by decide, by decide, fun e => by have := e.2; omega, fun e => by have := e.2; omega, fun e => by have := e.2; omega, fun x hx => by cases hx; exact ⟨fun e => by have := e.2; dsimp only at this; omega, E3.one_lt⟩⟩
        · rw [if_neg e2]; trivial
  case pos =>
  have hki : (k : Int) < (N : Int) := by omega
  have hf := fun W => gfirst_any k (by omega) W
  obtain ⟨q, hq⟩ : ∃ q, q = 4 + 41 * k := ⟨_, rfl⟩
  have HQ : Hid (q = 4 + 41 * k) := hq
  have HLn : Hid (k < N) := hlt
  rw [← hq] at hf
  clear hq hlt hk
  go_wp2_with fail
  refine (hf _).mono ?_
  rintro e w4 ⟨rfl, rfl⟩
  go_wp2_with fail
  refine (HRp.out _).mono ?_
  rintro e w5 ⟨rfl, hb5⟩
  have HB5 : Hid (Below w4.heap.size w4 w5) := hb5
  clear hb5 hf
  go_wp2_with fail
  refine (HWr.out _ q 1 1 _ rr).mono ?_
  rintro e w6 ⟨rfl, hc6, hb6⟩
  have hb56 : Below w5.heap.size w5 w6 := below2 ((Below.refl _ _).alloc (Nat.le_refl _) _) hb6
  have HC6 : Hid (CloAt w6 (w5.heap.size + 1) rr (4 + 41 * k) (some ⟨w5.heap.size, 0, none⟩) 1 1) := by
    rw [World.size_alloc] at hc6
    rw [HQ.out] at hc6
    exact hc6
  have HR6 : Hid (RowS w6 (some ⟨w5.heap.size, 0, none⟩) 1 (fun _ => z)) := (text_new w5 z _).below hb6
  have HB6 : Hid (Below w4.heap.size w4 w6) := below2 HB5.out hb56
  have HSz : Hid (w4.heap.size ≤ w5.heap.size) := HB5.out.size
  have OWN6 : Hid (w6.ownsRow w3.heap.size 78 1 (.slice aO k cO) k (cloVals B k)) := ownsRow_below OWN.out HB6.out
  have hs6 : w3.heap.size ≤ w6.heap.size := Nat.le_trans hsz HB6.out.size
  have t1 : True := trivial
  clear hc6 hb6 hb56
  go_wp2_with (first | (at_builtin; go_loud (have _t := t1; refine wpList_append_lies _ rfl _ _ 91 rfl w3.heap.size 78 i0 .nilFunc 1 8 Tryz.underlying91 hi hz0 hz1 hz2 rfl (by decide) (.slice aO k cO) k (cloVals B k) rfl (OWN6.out.alloc _) ⟨_, 0, none⟩ 1 1 [cloV (w5.heap.size + 1)] rfl rfl (cell_one_new _ _ _) (by simp [Value.oneCell', cloV]) (by decide) (by unfold maxLen; omega) (by omega) (by simp; omega) _ rfl ?_; intro g c' w10 hown' hgrow hlies hglt; obtain ⟨hclo10, hb10⟩ := HCl.out.grow (c' := c') OWN.out hsz HB6.out HC6.out HR6.out (by have := HSz.out; omega) HSz.out ((Below.refl _ _).alloc (Nat.le_refl _) _) hgrow hlies; have HC10 : Hid (Clos w10 w3.heap.size rr z (.slice (some ⟨g, 0, none⟩) (k + 1) c') (natW B k (w5.heap.size + 1)) (natW G k w5.heap.size) (k + 1)) := hclo10; have OWN10 : Hid (w10.ownsRow w3.heap.size 78 1 (.slice (some ⟨g, 0, none⟩) (k + 1) c') (k + 1) (cloVals (natW B k (w5.heap.size + 1)) (k + 1))) := (by rw [cloVals_next]; exact hown'); have HB10 : Hid (Below w3.heap.size w3 w10) := HBr.out.trans hb10; clear hown' hgrow hlies hclo10 hb10 t1)))
  go_roundg (N - (k + 1))
  case measure => have := HLn.out; omega
  case rel => exact ⟨k + 1, _, _, _, by have := HLn.out; omega, rfl, rfl, by go_num, OWN10.out, HC10.out, HB10.out⟩
end
end Go.Proofs.YtjmeiifogblmoaaGreatDoor

namespace Go.Proofs.YtjmeiifogblmoaaGreatDoor
open Go.RowKit

theorem gFormat_any {w : World} {dp : Nat} {D : Dr} {F : Nat → Prop} (h : DriveAt w dp D F) (hf : D.Few 900000) : Calls Tryz.prog 12 #[.pointer (some ⟨dp, 0, none⟩)] w fun e w' => e = .returned (.int .i64 ((Ri.formatS D).1 : Nat)) ∧ DriveAt w' dp (Ri.formatS D).2 (Plus F w.heap.size) ∧ Only F w w' := by
  by_cases hs : Ri.slots D.safe.length = 0
  · exact gFormat_none h hs
  · exact gFormat_some h hf (by omega)
theorem gAppend_any {w : World} {rp dp t c : Nat} {D : Dr} {F H : Nat → Prop} (row : Int) (a : Option Addr) (n cap : Nat) (f : Nat → Prt) (h : DriveAt w dp D F) (hr : GAt w rp dp t c H) (hab : ∀ k, F k → ¬ H k) (hfw : D.Few 900000) (hc : c ≤ 1000) (hin : RecIn row n f) (hp : PartsR w a n f) :
    Calls Tryz.prog 28 #[.pointer (some ⟨rp, 0, none⟩), .int .i64 row, .slice a n cap] w (GAppAns w rp dp t c row n f D F H) := by
  by_cases hs : Ri.slots D.safe.length ≤ c
  · exact gAppend_full h hr hc hs
  · cases hm : Rc.mayB row n f with
    | false => exact gAppend_no h hr hc (by omega) hin hp hm
    | true => exact gAppend_yes h hr hab hfw hc (by omega) hin hp hm
/-- the program's own package ring answers as is asked -/
def ring_says : RingSays where
  RAt := GAt
  only := fun {w w' rp dp t c H F} h ho hn => ⟨h.1.only ho (hn rp h.1.lt h.2), h.2⟩
  mono := fun h hs => ⟨h.1, hs _ h.2⟩
  tight := fun h => ⟨h.1, h.2, h.1.lt⟩
  slots := fun n w hn => (Slots_any n (by omega) w).mono fun _ _ ⟨he, hw⟩ => ⟨he, by rw [hw]; exact Below.refl _ _⟩
  format := fun h _ hf => gFormat_any h hf
  opens := fun h _ => gOpen_any h
  append := fun row a n cap f h hr hab _ hfw _ hc hin _ hp _ => gAppend_any row a n cap f h hr hab hfw hc hin hp
  trim := fun q h hr hab _ hf hs ht hc hq => gTrim_any q h hr hab hf hs ht hc hq
  left := fun h hr _ hc => Left_any h hr.1 hc
  next := fun hr => Next_any hr.1
end Go.Proofs.YtjmeiifogblmoaaGreatDoor
