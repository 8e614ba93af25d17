/- Several texts in one. The walks of the program's own steps: closures that write, one behind the other, as long as none fails. The walk of the program's own steps, whatever its closures are. Steps that write and flush the program's drive, one behind the other: what they make of it. -/
import Derived.Test.YtjmeiifogblmoaaGreatDoorMRgA
import Derived.Test.YtjmeiifogblmoaaGreatDoorDrvEnd
import Derived.Deep.LoopGhost
import Derived.Deep.RegionHeld3
import Derived.Test.YtjmeiifogblmoaaGreatDoorDrvSettle
namespace Go.Proofs.YtjmeiifogblmoaaGreatDoor
open Go.RowKit

/-- where a writing closure's boxes lie -/
def CloAt (w : World) (b rp q : Nat) (a : Option Addr) (n cap : Nat) : Prop :=
  w.heap[b]? = some (.cells #[.pointer (some ⟨rp, 0, none⟩)] 34 (0, 0)) ∧ w.heap[b + 1]? = some (.cells #[.int .i64 (q : Int)] 3 (0, 0)) ∧ w.heap[b + 2]? = some (.cells #[.slice a n cap] 42 (0, 0))
def cloV (b : Nat) : Value := .func (.func 77) #[] #[.pointer (some ⟨b + 2, 0, none⟩), .pointer (some ⟨b, 0, none⟩), .pointer (some ⟨b + 1, 0, none⟩)]
theorem CloAt.only {w w' : World} {b rp q n cap : Nat} {a : Option Addr} {G : Nat → Prop} (h : CloAt w b rp q a n cap) (ho : Only G w w') (h0 : ¬ G b) (h1 : ¬ G (b + 1)) (h2 : ¬ G (b + 2)) : CloAt w' b rp q a n cap :=
  ⟨(ho.block _ (Array.getElem?_eq_some_iff.1 h.1).1 h0).trans h.1, (ho.block _ (Array.getElem?_eq_some_iff.1 h.2.1).1 h1).trans h.2.1, (ho.block _ (Array.getElem?_eq_some_iff.1 h.2.2).1 h2).trans h.2.2⟩
theorem CloAt.lt {w : World} {b rp q n cap : Nat} {a : Option Addr} (h : CloAt w b rp q a n cap) : b + 2 < w.heap.size := (Array.getElem?_eq_some_iff.1 h.2.2).1
theorem CloAt.below {w w' : World} {b rp q n cap : Nat} {a : Option Addr} (h : CloAt w b rp q a n cap) (hb : Below w.heap.size w w') : CloAt w' b rp q a n cap := by
  have hl := h.lt
  exact ⟨(hb.block _ (by omega)).trans h.1, (hb.block _ (by omega)).trans h.2.1, (hb.block _ (by omega)).trans h.2.2⟩
theorem clo_new (w : World) (rp q n cap : Nat) (a : Option Addr) :
    let W := ((w.alloc (.cells #[.pointer (some ⟨rp, 0, none⟩)] 34)).alloc (.cells #[.int .i64 (q : Int)] 3)).alloc (.cells #[.slice a n cap] 42)
    CloAt W w.heap.size rp q a n cap ∧ Below w.heap.size w W := by
  intro W
  have e1 := heap_alloc_new w (.cells #[.pointer (some ⟨rp, 0, none⟩)] 34)
  obtain ⟨W1, hW1⟩ : ∃ W1, W1 = w.alloc (.cells #[.pointer (some ⟨rp, 0, none⟩)] 34) := ⟨_, rfl⟩
  have s1 : W1.heap.size = w.heap.size + 1 := by rw [hW1, World.size_alloc]
  have e2 := heap_alloc_new W1 (.cells #[.int .i64 (q : Int)] 3)
  obtain ⟨W2, hW2⟩ : ∃ W2, W2 = W1.alloc (.cells #[.int .i64 (q : Int)] 3) := ⟨_, rfl⟩
  have s2 : W2.heap.size = w.heap.size + 2 := by rw [hW2, World.size_alloc, s1]
  have e3 := heap_alloc_new W2 (.cells #[.slice a n cap] 42)
  have b1 : Below w.heap.size w W1 := by rw [hW1]; exact (Below.refl _ w).alloc (Nat.le_refl _) _
  have b2 : Below W1.heap.size W1 W2 := by rw [hW2]; exact (Below.refl _ W1).alloc (Nat.le_refl _) _
  have hW : W = W2.alloc (.cells #[.slice a n cap] 42) := by rw [hW2, hW1]
  have b3 : Below W2.heap.size W2 W := by rw [hW]; exact (Below.refl _ W2).alloc (Nat.le_refl _) _
  rw [← hW1] at e1
  rw [← hW2, s1] at e2
  rw [← hW, s2] at e3
  exact ⟨⟨(b3.block _ (by omega)).trans ((b2.block _ (by omega)).trans e1), (b3.block _ (by omega)).trans e2, e3⟩, (b1.trans (b2.mono (by omega))).trans (b3.mono (by omega))⟩
set_option maxRecDepth 100000 in
set_option maxHeartbeats 1000000 in
theorem writing_any (rp q n cap : Nat) (a : Option Addr) (w : World) :
    Calls Tryz.prog 42 #[.pointer (some ⟨rp, 0, none⟩), .int .i64 (q : Nat), .slice a n cap] w fun e w' => e = .returned (cloV w.heap.size) ∧ CloAt w' w.heap.size rp q a n cap ∧ Below w.heap.size w w' := by
  have hn := clo_new w rp q n cap a
  have HN : Hid _ := hn
  clear hn
  go_enter Tryz.func42, Tryz.ntmps42
  go_wp2
  go_ret
  exact ⟨rfl, HN.out⟩
set_option maxRecDepth 100000 in
set_option maxHeartbeats 4000000 in
/-- a writing closure that is called -/
theorem clo_any {w : World} {dp rp t c b q n cap : Nat} {a : Option Addr} {D : Dr} {F : Nat → Prop} (f : Nat → ByteArray) (h : DriveAt w dp D F) (hr : GRing w rp dp t c) (hc : CloAt w b rp q a n cap) (hrow : RowS w a n f) (h64 : ∀ j, j < n → (f j).size = 64)
    (hf : D.Few 950000) (hn : n ≤ 1000) (hq : q ≤ 100000) (k1 : ¬ F rp) (k2 : ¬ F b) (k3 : ¬ F (b + 1)) (k4 : ¬ F (b + 2)) (k5 : ∀ x, a = some x → ¬ F x.block) :
    Calls Tryz.prog 77 #[.pointer (some ⟨b + 2, 0, none⟩), .pointer (some ⟨b, 0, none⟩), .pointer (some ⟨b + 1, 0, none⟩)] w fun e w' => e = .returned (.int .i64 ((Dr.wrTo (0, D) (fun j => q + j) (fun j => (f j).data.toList) n).1 : Nat)) ∧ PEnd w w' dp (Dr.wrTo (0, D) (fun j => q + j) (fun j => (f j).data.toList) n).2 F := by
  obtain ⟨X, hX⟩ : ∃ X : Nat → Nat × Dr, X = Dr.wrTo (0, D) (fun j => q + j) (fun j => (f j).data.toList) := ⟨_, rfl⟩
  have HX : Hid (X = Dr.wrTo (0, D) (fun j => q + j) (fun j => (f j).data.toList)) := hX
  have HX0 : Hid (X 0 = (0, D)) := by show _ = _; rw [hX]; rfl
  have HXs : Hid (∀ k, X (k + 1) = Dr.wr1 (X k) (q + k) (f k).data.toList) := fun k => by rw [hX]; rfl
  have HXf : Hid (∀ k, k ≤ n → (X k).2.Few 1000000) := fun k hk => by rw [hX]; exact (Dr.Few.wrTo (x := (0, D)) hf _ _ k).mono (by omega)
  have HXt : Hid (∀ k, k ≤ n → (X k).1 ≠ 0 → X n = X k) := fun k hk hne => by rw [hX] at hne ⊢; exact Dr.wrTo_stuck hne hk
  rw [← hX]
  have HW : Hid (∀ W k, k < n → PEnd w W dp (X k).2 F → Calls Tryz.prog 20 #[.pointer (some ⟨dp, 0, none⟩), .int .i64 ((q + k : Nat) : Int), .string (f k)] W fun e w' => e = .returned (.int .i64 ((Dr.wr1 (0, (X k).2) (q + k) (f k).data.toList).1 : Nat)) ∧ PEnd w w' dp (Dr.wr1 (0, (X k).2) (q + k) (f k).data.toList).2 F ∧ Only (Plus F w.heap.size) W w') := fun W k hk hp =>
    (pWr1 hp.1 (HXf.out k (Nat.le_of_lt hk)) (q + k) (f k) (h64 k hk)).mono fun e w' ⟨he, hd, ho⟩ => ⟨he, hp.step hd ho, ho⟩
  have HR : Hid (∀ W, Only F w W → GRing W rp dp t c ∧ CloAt W b rp q a n cap ∧ RowS W a n f) := fun W ho => ⟨hr.only ho k1, hc.only ho k2 k3 k4, fun j hj => by
    obtain ⟨bb, o, e, hcell⟩ := hrow j hj
    exact ⟨bb, o, e, (World.cell?_of_block (w := w) (a := ⟨bb, o + j, none⟩) (ho.block bb (World.block_lt_of_cell? w _ hcell) (k5 _ e))).trans hcell⟩⟩
  have HP0 : Hid (PEnd w w dp D F) := PEnd.refl h
  have HP : Hid (∀ k, Plus F w.heap.size k → F k ∨ w.heap.size ≤ k) := fun k hk => hk
  have HLt : Hid (rp < w.heap.size ∧ b + 2 < w.heap.size ∧ ¬ F rp ∧ ¬ F b ∧ ¬ F (b + 1)) := ⟨hr.lt, hc.lt, k1, k2, k3⟩
  have cl := cell_of_row w (b + 2) 0 _ _ _ hc.2.2
  have cl2 : w.cell? ⟨b + 2, 0, none⟩ = some (.slice a n cap) := cl
  clear h hr hc hrow h64 hf k1 k2 k3 k4 k5 hX cl
  go_enter Tryz.func77, Tryz.ntmps77
  go_wp2
  go_loopg [4, 5, 6, 9] n (fun gg u4 u5 u6 i wr => ∃ k : Nat, k ≤ n ∧ gg = n - k ∧ i = .int .i64 (k : Int) ∧ PEnd w wr dp (X k).2 F ∧ (X k).1 = 0)
  case atStart => exact ⟨0, Nat.zero_le _, rfl, rfl, by rw [HX0.out]; exact HP0.out, by rw [HX0.out]⟩
  case round =>
  obtain ⟨k, hk, rfl, rfl, hp, hx0⟩ := hrel
  have HPk : Hid (PEnd w wr dp (X k).2 F) := hp
  have HX1 : Hid ((X k).1 = 0) := hx0
  by_cases hlt : k < n
  case neg =>
    have hkn : k = n := by omega
    subst hkn
    clear hp hx0 hlt hk
    go_wp2
    go_ret
    exact ⟨by rw [HX1.out]; rfl, HPk.out⟩
  case pos =>
  have hki : (k : Int) < (n : Int) := by omega
  obtain ⟨g1, g2, g3⟩ := HR.out wr hp.2
  obtain ⟨bb, o, rfl, hcl⟩ := g3 k hlt
  have d0 : wr.drew.cell? ⟨rp, 0, none⟩ = some (.pointer (some ⟨dp, 0, none⟩)) := g1.k0
  have d1 : wr.drew.cell? ⟨b, 0, none⟩ = some (.pointer (some ⟨rp, 0, none⟩)) := cell_of_row wr b 0 _ _ _ g2.1
  have d2 : wr.drew.cell? ⟨b + 1, 0, none⟩ = some (.int .i64 (q : Int)) := cell_of_row wr (b + 1) 0 _ _ _ g2.2.1
  have hw := HW.out wr.drew k hlt (hp.below (Below.refl _ _).drew)
  have HS : Hid (∀ W, Only (Plus F w.heap.size) wr.drew W → W.cell? ⟨rp, 0, none⟩ = some (.pointer (some ⟨dp, 0, none⟩)) ∧ W.cell? ⟨b, 0, none⟩ = some (.pointer (some ⟨rp, 0, none⟩)) ∧ W.cell? ⟨b + 1, 0, none⟩ = some (.int .i64 (q : Int))) := fun W ho => by
    have hl := HLt.out
    refine ⟨(World.cell?_of_block (w := wr.drew) (a := ⟨rp, 0, none⟩) (ho.block rp (World.block_lt_of_cell? wr.drew _ d0) (fun e => ?_))).trans d0, (World.cell?_of_block (w := wr.drew) (a := ⟨b, 0, none⟩) (ho.block b (World.block_lt_of_cell? wr.drew _ d1) (fun e => ?_))).trans d1, (World.cell?_of_block (w := wr.drew) (a := ⟨b + 1, 0, none⟩) (ho.block (b + 1) (World.block_lt_of_cell? wr.drew _ d2) (fun e => ?_))).trans d2⟩
    · rcases HP.out _ e with e | e
      · exact hl.2.2.1 e
      · omega
    · rcases HP.out _ e with e | e
      · exact hl.2.2.2.1 e
      · omega
    · rcases HP.out _ e with e | e
      · exact hl.2.2.2.2 e
      · omega
  obtain ⟨p, hpp⟩ : ∃ p, p = q + k := ⟨_, rfl⟩
  have hp1 : (q : Int) + (k : Int) = (p : Int) := by omega
  have hp2 : IntKind.i64.wrap (p : Int) = (p : Int) := by rw [IntKind.wrap_i64]; omega
  obtain ⟨Y, hY⟩ : ∃ Y, Y = Dr.wr1 (0, (X k).2) (q + k) (f k).data.toList := ⟨_, rfl⟩
  have HY : Hid (X (k + 1) = Y) := by
    show _ = _
    rw [HXs.out k, hY, ← HX1.out]
  rw [← hY, ← hpp] at hw
  obtain ⟨s, hs⟩ : ∃ s, s = f k := ⟨_, rfl⟩
  rw [← hs] at hw hcl
  obtain ⟨y, hy⟩ : ∃ y, y = Y.1 := ⟨_, rfl⟩
  have HYy : Hid (y = Y.1) := hy
  rw [← hy] at hw
  have HLn : Hid (k < n) := hlt
  clear hp hx0 g1 g2 g3 hpp hY hs hy
  go_wp2
  go_region_held3 (fun W => W.cell? ⟨rp, 0, none⟩ = some (.pointer (some ⟨dp, 0, none⟩)) ∧ W.cell? ⟨b, 0, none⟩ = some (.pointer (some ⟨rp, 0, none⟩)) ∧ W.cell? ⟨b + 1, 0, none⟩ = some (.int .i64 (q : Int))) (first | exact ⟨d0, d1, d2⟩ | assumption) (first | (go_at_call 20; refine hw.mono ?_; rintro e w6 ⟨rfl, hp6, ho6⟩; have s6 := HS.out w6 ho6))
  have HP6 : Hid (PEnd w w6 dp Y.2 F) := hp6
  clear hp6 ho6 s6 hp1 hp2 hw
  by_cases hy0 : y = 0
  case neg =>
    have hne : ((y : Int) != 0) = true := by rw [bne_iff_ne]; omega
    have HSt : Hid (X n = Y) := by
      show _ = _
      rw [HXt.out (k + 1) HLn.out (by rw [HY.out, ← HYy.out]; exact hy0), HY.out]
    clear hy0
    go_wp2
    go_ret
    exact ⟨by rw [HSt.out, ← HYy.out]; rfl, by rw [HSt.out]; exact HP6.out⟩
  case pos =>
  have hne : ((y : Int) != 0) = false := by rw [bne_eq_false_iff_eq]; omega
  have HZ : Hid ((X (k + 1)).1 = 0) := by show _ = _; rw [HY.out, ← HYy.out]; exact hy0
  clear hy0
  go_wp2
  go_roundg (n - (k + 1))
  case measure => omega
  case rel => exact ⟨k + 1, by omega, rfl, by go_num, by rw [HY.out]; exact HP6.out, HZ.out⟩
end Go.Proofs.YtjmeiifogblmoaaGreatDoor

namespace Go.Proofs.YtjmeiifogblmoaaGreatDoor
open Go.RowKit

/-- a function value -/
structure Fv where
  k : FuncId
  bs : Array Value
  cs : Array Value
def Fv.v (x : Fv) : Value := .func (.func x.k) x.bs x.cs
set_option maxRecDepth 100000 in
set_option maxHeartbeats 2000000 in
theorem steps_any {w : World} (a : Option Addr) (n cap : Nat) (g : Nat → Fv) (I : Nat → World → Prop) (Q : Nat → World → Prop) (hn : n ≤ 1000)
    (hrow : ∀ j, j < n → ∀ W, I j W → ∃ blk off, a = some ⟨blk, off, none⟩ ∧ W.cell? ⟨blk, off + j, none⟩ = some (.func (.func (g j).k) (g j).bs (g j).cs))
    (hrun : ∀ j, j < n → ∀ args W, (callFunc (g j).k args).run Tryz.prog W = .ok (.enter (g j).k args) W)
    (hstep : ∀ j, j < n → ∀ W, I j W → Calls Tryz.prog (g j).k ((g j).bs ++ #[] ++ (g j).cs) W fun e w' => ∃ x : Nat, e = .returned (.int .i64 (x : Int)) ∧ (x = 0 → I (j + 1) w') ∧ (x ≠ 0 → Q x w')) (h0 : I 0 w) :
    Calls Tryz.prog 45 #[.slice a n cap] w fun e w' => ∃ x : Nat, e = .returned (.int .i64 (x : Int)) ∧ (x = 0 ∧ I n w' ∨ x ≠ 0 ∧ Q x w') := by
  have HRow : Hid (∀ j, j < n → ∀ W, I j W → ∃ blk off, a = some ⟨blk, off, none⟩ ∧ W.cell? ⟨blk, off + j, none⟩ = some (.func (.func (g j).k) (g j).bs (g j).cs)) := hrow
  have HRun : Hid (∀ j, j < n → ∀ args W, (callFunc (g j).k args).run Tryz.prog W = .ok (.enter (g j).k args) W) := hrun
  have HSt : Hid (∀ j, j < n → ∀ W, I j W → Calls Tryz.prog (g j).k ((g j).bs ++ #[] ++ (g j).cs) W fun e w' => ∃ x : Nat, e = .returned (.int .i64 (x : Int)) ∧ (x = 0 → I (j + 1) w') ∧ (x ≠ 0 → Q x w')) := hstep
  have H0 : Hid (I 0 w) := h0
  clear hrow hrun hstep h0
  go_enter Tryz.func45, Tryz.ntmps45
  go_wp2
  go_loopg [4, 5, 8] n (fun gg u4 u5 i wr => ∃ k : Nat, k ≤ n ∧ gg = n - k ∧ i = .int .i64 (k : Int) ∧ I k wr)
  case atStart => exact ⟨0, Nat.zero_le _, rfl, rfl, H0.out⟩
  case round =>
  obtain ⟨k, hk, rfl, rfl, hi⟩ := hrel
  have HI : Hid (I k wr) := hi
  by_cases hlt : k < n
  case neg =>
    have hkn : k = n := by omega
    subst hkn
    clear hi hlt hk
    go_wp2
    go_ret
    exact ⟨0, rfl, .inl ⟨rfl, HI.out⟩⟩
  case pos =>
  have hki : (k : Int) < (n : Int) := by omega
  obtain ⟨bb, o, rfl, hcl⟩ := HRow.out k hlt wr hi
  have hst := HSt.out k hlt wr hi
  have hrn := HRun.out k hlt
  obtain ⟨fk, hfk⟩ : ∃ fk, fk = (g k).k := ⟨_, rfl⟩
  obtain ⟨fb, hfb⟩ : ∃ fb, fb = (g k).bs := ⟨_, rfl⟩
  obtain ⟨fc, hfc⟩ : ∃ fc, fc = (g k).cs := ⟨_, rfl⟩
  rw [← hfk, ← hfb, ← hfc] at hcl hst
  rw [← hfk] at hrn
  have HLn : Hid (k < n) := hlt
  clear hi hfk hfb hfc hlt
  go_wp2_with fail
  refine hst.mono ?_
  rintro e w1 ⟨x, rfl, hx0, hx1⟩
  have HX : Hid ((x = 0 → I (k + 1) w1) ∧ (x ≠ 0 → Q x w1)) := ⟨hx0, hx1⟩
  clear hst hrn hcl hx0 hx1
  by_cases hz : x = 0
  case neg =>
    have hne : ((x : Int) != 0) = true := by rw [bne_iff_ne]; omega
    have HZ : Hid (x ≠ 0) := hz
    clear hz
    go_wp2
    go_ret
    exact ⟨x, rfl, .inr ⟨HZ.out, HX.out.2 HZ.out⟩⟩
  case pos =>
  have hne : ((x : Int) != 0) = false := by rw [bne_eq_false_iff_eq]; omega
  have HI2 : Hid (I (k + 1) w1) := HX.out.1 hz
  clear hz
  go_wp2
  go_roundg (n - (k + 1))
  case measure => have := HLn.out; omega
  case rel => exact ⟨k + 1, by have := HLn.out; omega, rfl, by go_num, HI2.out⟩
theorem call_writing (args : Array Value) (W : World) : (callFunc 77 args).run Tryz.prog W = .ok (.enter 77 args) W := run_enter Tryz.func77 (by kernel_rfl) (by kernel_rfl) args W
theorem call_flush (args : Array Value) (W : World) : (callFunc 39 args).run Tryz.prog W = .ok (.enter 39 args) W := run_enter Tryz.func39 (by kernel_rfl) (by kernel_rfl) args W
end Go.Proofs.YtjmeiifogblmoaaGreatDoor

namespace Go.Proofs.YtjmeiifogblmoaaGreatDoor
open Go.RowKit

/-- a step: a closure that writes, or a flush -/
inductive Stp where
  | wr (b q m cp : Nat) (a : Option Addr) (f : Nat → ByteArray)
  | fl
def Stp.fv (dp : Nat) : Stp → Fv
  | .wr b _ _ _ _ _ => ⟨77, #[], #[.pointer (some ⟨b + 2, 0, none⟩), .pointer (some ⟨b, 0, none⟩), .pointer (some ⟨b + 1, 0, none⟩)]⟩
  | .fl => ⟨39, #[.pointer (some ⟨dp, 0, none⟩)], #[]⟩
def Stp.does : Stp → Nat × Dr → Nat × Dr
  | .wr _ q m _ _ f, x => Dr.wrTo x (fun j => q + j) (fun j => (f j).data.toList) m
  | .fl, x => Dr.fl1 x
def Stp.ok (w : World) (rp : Nat) (F : Nat → Prop) : Stp → Prop
  | .wr b q m cp a f => CloAt w b rp q a m cp ∧ RowS w a m f ∧ (∀ j, j < m → (f j).size = 64) ∧ m ≤ 40 ∧ q ≤ 100000 ∧ ¬ F b ∧ ¬ F (b + 1) ∧ ¬ F (b + 2) ∧ ∀ x, a = some x → ¬ F x.block ∧ x.block < w.heap.size
  | .fl => True
def doTo (s : Nat → Stp) (x : Nat × Dr) : Nat → Nat × Dr
  | 0 => x
  | k + 1 => (s k).does (doTo s x k)
theorem Stp.bad (s : Stp) {x : Nat × Dr} (h : x.1 ≠ 0) : s.does x = x := by
  cases s with
  | wr b q m cp a f => exact Dr.wrTo_bad h _ _ _
  | fl => exact Dr.fl1_bad h
theorem doTo_stuck {s : Nat → Stp} {x : Nat × Dr} {k : Nat} (h : (doTo s x k).1 ≠ 0) : ∀ {m}, k ≤ m → doTo s x m = doTo s x k
  | 0, hm => by have : k = 0 := by omega
                rw [this]
  | m + 1, hm => by
    by_cases e : k = m + 1
    · rw [e]
    · have ih := doTo_stuck h (m := m) (by omega)
      show (s m).does (doTo s x m) = doTo s x k
      rw [ih]
      exact (s m).bad h
theorem Stp.few (s : Stp) {w : World} {rp : Nat} {F : Nat → Prop} (hs : s.ok w rp F) {x : Nat × Dr} {B : Nat} (h : x.2.Few B) : (s.does x).2.Few (B + 40) := by
  cases s with
  | wr b q m cp a f => exact (Dr.Few.wrTo h _ _ m).mono (by have := hs.2.2.2.1; omega)
  | fl => exact (Dr.Few.fl1 h).mono (by omega)
theorem doTo_few {s : Nat → Stp} {w : World} {rp : Nat} {F : Nat → Prop} {x : Nat × Dr} {B : Nat} (h : x.2.Few B) : ∀ {n}, (∀ j, j < n → (s j).ok w rp F) → (doTo s x n).2.Few (B + 40 * n)
  | 0, _ => h
  | n + 1, hs => (Stp.few (s n) (hs n (by omega)) (doTo_few h (fun j hj => hs j (by omega)))).mono (by omega)
theorem Stp.call (s : Stp) (dp : Nat) (args : Array Value) (W : World) : (callFunc (s.fv dp).k args).run Tryz.prog W = .ok (.enter (s.fv dp).k args) W := by
  cases s with
  | wr b q m cp a f => exact call_writing args W
  | fl => exact call_flush args W
/-- what a step does -/
theorem Stp.runs (s : Stp) {w : World} {dp rp t c : Nat} {D : Dr} {F : Nat → Prop} (h : DriveAt w dp D F) (hr : GRing w rp dp t c) (hk : ¬ F rp) (hs : s.ok w rp F) (hf : D.Few 950000) :
    Calls Tryz.prog (s.fv dp).k ((s.fv dp).bs ++ #[] ++ (s.fv dp).cs) w fun e w' => e = .returned (.int .i64 ((s.does (0, D)).1 : Nat)) ∧ PEnd w w' dp (s.does (0, D)).2 F := by
  cases s with
  | wr b q m cp a f =>
    obtain ⟨h1, h2, h3, h4, h5, h6, h7, h8, h9⟩ := hs
    exact clo_any f h hr h1 h2 h3 hf (by omega) h5 hk h6 h7 h8 (fun x hx => (h9 x hx).1)
  | fl =>
    refine (pFl1 h (hf.mono (by decide))).mono ?_
    rintro e w' ⟨he, hd, ho⟩
    exact ⟨he, hd.mono fun _ hk => .inl hk, ho⟩
theorem Stp.only (s : Stp) {w w' : World} {rp : Nat} {F : Nat → Prop} (hs : s.ok w rp F) (ho : Only F w w') : s.ok w' rp (Plus F w.heap.size) := by
  cases s with
  | wr b q m cp a f =>
    obtain ⟨h1, h2, h3, h4, h5, h6, h7, h8, h9⟩ := hs
    have hl := h1.lt
    refine ⟨h1.only ho h6 h7 h8, fun j hj => ?_, h3, h4, h5, fun e => e.elim h6 (fun x => by omega), fun e => e.elim h7 (fun x => by omega), fun e => e.elim h8 (fun x => by omega), fun x hx => ⟨fun e => e.elim (h9 x hx).1 (fun y => by have := (h9 x hx).2; omega), Nat.lt_of_lt_of_le (h9 x hx).2 ho.size⟩⟩
    obtain ⟨bb, o, e, hcell⟩ := h2 j hj
    exact ⟨bb, o, e, (World.cell?_of_block (w := w) (a := ⟨bb, o + j, none⟩) (ho.block bb (World.block_lt_of_cell? w _ hcell) (h9 _ e).1)).trans hcell⟩
  | fl => trivial
/-- steps of such a kind, called one behind the other -/
theorem dsteps_any {w : World} {dp rp t c n cap : Nat} {D : Dr} {F : Nat → Prop} {a : Option Addr} (s : Nat → Stp) (h : DriveAt w dp D F) (hr : GRing w rp dp t c) (hk : ¬ F rp) (hf : D.Few 900000) (hn : n ≤ 200)
    (hs : ∀ j, j < n → (s j).ok w rp F) (hrow : ∀ j, j < n → ∃ blk off, a = some ⟨blk, off, none⟩ ∧ w.cell? ⟨blk, off + j, none⟩ = some ((s j).fv dp).v ∧ ¬ F blk) :
    Calls Tryz.prog 45 #[.slice a n cap] w fun e w' => e = .returned (.int .i64 ((doTo s (0, D) n).1 : Nat)) ∧ PEnd w w' dp (doTo s (0, D) n).2 F := by
  have hfew : ∀ j, j ≤ n → (doTo s (0, D) j).2.Few 950000 := fun j hj => (doTo_few (x := (0, D)) hf (fun i hi => hs i (by omega))).mono (by omega)
  refine (steps_any a n cap (fun j => (s j).fv dp) (fun j W => PEnd w W dp (doTo s (0, D) j).2 F ∧ (doTo s (0, D) j).1 = 0) (fun x W => x = (doTo s (0, D) n).1 ∧ PEnd w W dp (doTo s (0, D) n).2 F) (by omega) (fun j hj W hI => ?_) (fun j hj args W => (s j).call dp args W) (fun j hj W hI => ?_) ⟨PEnd.refl h, rfl⟩).mono ?_
  · obtain ⟨blk, off, e, hc, hb⟩ := hrow j hj
    exact ⟨blk, off, e, (World.cell?_of_block (w := w) (a := ⟨blk, off + j, none⟩) (hI.1.2.block blk (World.block_lt_of_cell? w _ hc) hb)).trans hc⟩
  · obtain ⟨hp, hx0⟩ := hI
    have hkp : ¬ Plus F w.heap.size rp := fun e => e.elim hk (fun x => by have := hr.lt; omega)
    have hE : doTo s (0, D) (j + 1) = (s j).does (0, (doTo s (0, D) j).2) := congrArg (s j).does (Prod.ext hx0 rfl)
    refine ((s j).runs hp.1 (hr.only hp.2 hk) hkp ((s j).only (hs j hj) hp.2) (hfew j (Nat.le_of_lt hj))).mono ?_
    rintro e w' ⟨he, hp'⟩
    rw [← hE] at he hp'
    refine ⟨(doTo s (0, D) (j + 1)).1, he, fun hz => ⟨hp.trans hp', hz⟩, fun hz => ?_⟩
    rw [doTo_stuck hz (m := n) hj]
    exact ⟨rfl, hp.trans hp'⟩
  · rintro e w' ⟨x, he, ⟨rfl, hI⟩ | ⟨hz, hQ⟩⟩
    · exact ⟨by rw [hI.2]; exact he, hI.1⟩
    · exact ⟨by rw [← hQ.1]; exact he, hQ.2⟩
end Go.Proofs.YtjmeiifogblmoaaGreatDoor
