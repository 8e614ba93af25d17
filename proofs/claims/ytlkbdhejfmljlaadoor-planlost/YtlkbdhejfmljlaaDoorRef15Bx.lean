/- Plans: three cells of memory, and rows of the call's own; the walk of Choose where nothing may be done. -/
import Derived.Test.YtlkbdhejfmljlaaDoorRef15Rd
import Derived.Test.YtlkbdhejfmljlaaDoorRef15Co
import Derived.Test.YtlkbdhejfmljlaaDoorKitRet
namespace Go.Proofs.YtlkbdhejfmljlaaDoor
open Go.RowKit
attribute [local go_sem] Oper.semAt_some

/-- a plan's three cells -/
structure Box15 (w : World) (b : Nat) (c0 c1 c2 : Value) : Prop where
  k0 : w.cell? ⟨b, 0, none⟩ = some c0
  k1 : w.cell? ⟨b, 1, none⟩ = some c1
  k2 : w.cell? ⟨b, 2, none⟩ = some c2
  f0 : w.frozen? ⟨b, 0, none⟩ = false
  f1 : w.frozen? ⟨b, 1, none⟩ = false
  f2 : w.frozen? ⟨b, 2, none⟩ = false
namespace Box15
variable {w w' : World} {b B : Nat} {c0 c1 c2 : Value}
theorem new (w : World) (t : TypeId) (c0 c1 c2 : Value) : Box15 (w.alloc (.cells #[c0, c1, c2] t)) w.heap.size c0 c1 c2 :=
  ⟨World.cell?_alloc_mark w _ t (0, 0) 0, World.cell?_alloc_mark w _ t (0, 0) 1, World.cell?_alloc_mark w _ t (0, 0) 2, by rw [World.frozen?_alloc_mark]; simp, by rw [World.frozen?_alloc_mark]; simp, by rw [World.frozen?_alloc_mark]; simp⟩
theorem lt (h : Box15 w b c0 c1 c2) : b < w.heap.size := World.block_lt_of_cell? w _ h.k0
theorem below (h : Box15 w b c0 c1 c2) (hb : Below B w w') (hB : b < B) : Box15 w' b c0 c1 c2 :=
  ⟨(hb.cell (p := ⟨b, 0, none⟩) hB).trans h.k0, (hb.cell (p := ⟨b, 1, none⟩) hB).trans h.k1, (hb.cell (p := ⟨b, 2, none⟩) hB).trans h.k2, (hb.frozen (p := ⟨b, 0, none⟩) hB).trans h.f0, (hb.frozen (p := ⟨b, 1, none⟩) hB).trans h.f1, (hb.frozen (p := ⟨b, 2, none⟩) hB).trans h.f2⟩
theorem put0 (h : Box15 w b c0 c1 c2) (x : Value) : Box15 (w.setCell ⟨b, 0, none⟩ x) b x c1 c2 :=
  ⟨World.cell?_setCell_same _ _ _ h.k0, (World.cell?_setCell_other _ _ _ _ (fun e => by injection e with _ e2; cases e2)).trans h.k1, (World.cell?_setCell_other _ _ _ _ (fun e => by injection e with _ e2; cases e2)).trans h.k2,
    (World.frozen?_setCell _ _ _ _).trans h.f0, (World.frozen?_setCell _ _ _ _).trans h.f1, (World.frozen?_setCell _ _ _ _).trans h.f2⟩
theorem put1 (h : Box15 w b c0 c1 c2) (x : Value) : Box15 (w.setCell ⟨b, 1, none⟩ x) b c0 x c2 :=
  ⟨(World.cell?_setCell_other _ _ _ _ (fun e => by injection e with _ e2; cases e2)).trans h.k0, World.cell?_setCell_same _ _ _ h.k1, (World.cell?_setCell_other _ _ _ _ (fun e => by injection e with _ e2; cases e2)).trans h.k2,
    (World.frozen?_setCell _ _ _ _).trans h.f0, (World.frozen?_setCell _ _ _ _).trans h.f1, (World.frozen?_setCell _ _ _ _).trans h.f2⟩
theorem put2 (h : Box15 w b c0 c1 c2) (x : Value) : Box15 (w.setCell ⟨b, 2, none⟩ x) b c0 c1 x :=
  ⟨(World.cell?_setCell_other _ _ _ _ (fun e => by injection e with _ e2; cases e2)).trans h.k0, (World.cell?_setCell_other _ _ _ _ (fun e => by injection e with _ e2; cases e2)).trans h.k1, World.cell?_setCell_same _ _ _ h.k2,
    (World.frozen?_setCell _ _ _ _).trans h.f0, (World.frozen?_setCell _ _ _ _).trans h.f1, (World.frozen?_setCell _ _ _ _).trans h.f2⟩
theorem far (h : Box15 w b c0 c1 c2) {p : Addr} (hp : p.block ≠ b) (x : Value) : Box15 (w.setCell p x) b c0 c1 c2 :=
  ⟨(World.cell?_setCell_other _ _ _ _ (fun e => hp (by rw [e]))).trans h.k0, (World.cell?_setCell_other _ _ _ _ (fun e => hp (by rw [e]))).trans h.k1, (World.cell?_setCell_other _ _ _ _ (fun e => hp (by rw [e]))).trans h.k2,
    (World.frozen?_setCell _ _ _ _).trans h.f0, (World.frozen?_setCell _ _ _ _).trans h.f1, (World.frozen?_setCell _ _ _ _).trans h.f2⟩
theorem all (h : Box15 w b c0 c1 c2) (x y z : Value) : Box15 (((w.setCell ⟨b, 0, none⟩ x).setCell ⟨b, 1, none⟩ y).setCell ⟨b, 2, none⟩ z) b x y z := ((h.put0 x).put1 y).put2 z
end Box15
/-- a cell is stored to that lies above: what lay below stays -/
theorem stored15 {w w1 : World} {n : Nat} (h : Below n w w1) (h1 : n ≤ w1.heap.size) {p : Addr} (hp : n ≤ p.block) (x : Value) : Below n w (w1.setCell p x) :=
  h.trans ((Only.setCell (fun k => k = p.block) w1 p x rfl).below (fun k hk => by rw [hk]; exact hp) h1)
theorem stored15_all {w w1 : World} {n b : Nat} (h : Below n w w1) (h1 : n ≤ w1.heap.size) (hb : n ≤ b) (x y z : Value) : Below n w (((w1.setCell ⟨b, 0, none⟩ x).setCell ⟨b, 1, none⟩ y).setCell ⟨b, 2, none⟩ z) :=
  h.trans (((Only.setCell (fun k => k = b) w1 ⟨b, 0, none⟩ x rfl).then ((Only.setCell (fun k => k = b) _ ⟨b, 1, none⟩ y rfl).then (Only.setCell (fun k => k = b) _ ⟨b, 2, none⟩ z rfl))).below (fun k hk => by rw [hk]; exact hb) h1)
theorem own_set15 {w : World} {B t s n : Nat} {v : Value} {l : List Value} (h : w.ownsRow B t s v n l) {a : Addr} (ha : a.block < B) (x : Value) : (w.setCell a x).ownsRow B t s v n l := by
  refine ⟨h.1, ?_⟩
  rcases h.2 with h0 | ⟨g, cap, cur, rfl, hg, hb, rest⟩
  · exact .inl h0
  · exact .inr ⟨g, cap, cur, rfl, hg, (heap_setCell_other w a g x (by omega)).trans hb, rest⟩
/-- a row's lower bound is laxer -/
theorem row_low15 {w : World} {B B' t s n : Nat} {v : Value} {l : List Value} (h : w.ownsRow B t s v n l) (hB : B' ≤ B) : w.ownsRow B' t s v n l :=
  ⟨h.1, h.2.imp id fun ⟨g, cap, cur, e, hg, r⟩ => ⟨g, cap, cur, e, Nat.le_trans hB hg, r⟩⟩
/-- what Choose answers -/
def ChooseAns (w : World) (n : Int) (m : Nat) (B : Nat → Bool) (L : List Int) (r : Ending) (w' : World) : Prop :=
  ∃ vr vw, r = .returned (.tuple #[.agg #[.int .i64 (Pl.chooseW n m B L), vr, vw], .int .i64 (Pl.chooseE n m L : Nat)]) ∧ Row15 w (Pl.chooseR n m B L) vr w' ∧ Row15 w (Pl.chooseP n m B L) vw w'
theorem choose_none {w w' : World} {n : Int} {m : Nat} {B : Nat → Bool} {L : List Int} {e : Int} (hg : Pl.goes n m B L = false) (he : ((Pl.chooseE n m L : Nat) : Int) = e) (hb : Below w.heap.size w w') :
    ChooseAns w n m B L (.returned (.tuple #[.agg #[.int .i64 0, .slice none 0 0, .slice none 0 0], .int .i64 e])) w' :=
  ⟨.slice none 0 0, .slice none 0 0, by unfold Pl.chooseW; rw [if_neg (by rw [hg]; simp), he], by unfold Pl.chooseR; rw [if_neg (by rw [hg]; simp)]; exact Row15.nil hb, by unfold Pl.chooseP; rw [if_neg (by rw [hg]; simp)]; exact Row15.nil hb⟩

set_option maxRecDepth 100000 in
set_option maxHeartbeats 4000000 in
theorem rChoose15_no (w : World) (n : Int) (a0 : Option Addr) (m0 k0 : Nat) (B : Nat → Bool) (a : Option Addr) (cap : Nat) (L : List Int) (hcap : L.length ≤ cap) (hL : L.length ≤ 1000000) (hR : RowI .i64 w a L.length (fun j => L.getD j 0))
    (hno : Pl.costOk n m0 L = false) : Calls Tryd.prog 10 #[.int .i64 n, .slice a0 m0 k0, .slice a L.length cap] w (ChooseAns w n m0 B L) := by
  have hg : Pl.goes n m0 B L = false := by unfold Pl.goes; rw [hno]; rfl
  have x6 := Box15.new w 30 (.int .i64 0) (.slice none 0 0) (.slice none 0 0)
  have b6 : Below w.heap.size w (w.alloc (.cells #[.int .i64 0, .slice none 0 0, .slice none 0 0] 30)) := (Below.refl _ w).alloc (Nat.le_refl _) _
  have hro := rroles15_any _ n a cap L hcap hL (hR.below b6)
  have X6 : Hid (Box15 (w.alloc (.cells #[.int .i64 0, .slice none 0 0, .slice none 0 0] 30)) w.heap.size (.int .i64 0) (.slice none 0 0) (.slice none 0 0)) := x6
  have B6 : Hid (Below w.heap.size w (w.alloc (.cells #[.int .i64 0, .slice none 0 0, .slice none 0 0] 30))) := b6
  obtain ⟨ok, hok⟩ : ∃ ok, ok = Pl.rolesB n L := ⟨_, rfl⟩
  rw [← hok] at hro
  have HRO : Hid (Calls Tryd.prog 22 #[.int .i64 n, .slice a L.length cap] (w.alloc (.cells #[.int .i64 0, .slice none 0 0, .slice none 0 0] 30)) (Same15 (w.alloc (.cells #[.int .i64 0, .slice none 0 0, .slice none 0 0] 30)) (.bool ok))) := hro
  clear x6 b6 hro hR
  have HG : Hid (Pl.goes n m0 B L = false) := hg
  clear hg
  cases ok with
  | false =>
    have HE : Hid (((Pl.chooseE n m0 L : Nat) : Int) = 1) := by show _ = _; unfold Pl.chooseE Pl.argsOk; rw [← hok]; rfl
    clear hok hno
    go_enter Tryd.func10, Tryd.ntmps10
    go_wp2_with fail
    refine HRO.out.mono ?_
    rintro e w1 ⟨rfl, hb⟩
    obtain ⟨k0, k1, k2, f0, f1, f2⟩ := X6.out.below hb X6.out.lt
    have HB1 : Hid (Below w.heap.size w w1) := below2 B6.out hb
    clear hb
    go_wp2
    refine bodyPost_ret (ret_cell_tmp rfl _ _ ⟨w.heap.size, 0, none⟩ (.agg #[.int .i64 0, .slice none 0 0, .slice none 0 0]) rfl (by go_simp)) rfl ?_
    exact choose_none HG.out HE.out (stored15_all HB1.out HB1.out.size (Nat.le_refl _) _ _ _)
  | true =>
    obtain ⟨q2, q8⟩ := Pl.rolesB_n hok.symm
    obtain ⟨N, rfl⟩ : ∃ N : Nat, n = (N : Int) := ⟨n.toNat, by omega⟩
    by_cases hmn : m0 = N
    · subst hmn
      have ha : Pl.argsOk (m0 : Int) m0 L = true := by unfold Pl.argsOk; rw [← hok]; simp
      have hl2 : ¬ L.length ≤ 2 := fun h => by unfold Pl.costOk at hno; rw [ha, decide_eq_true h] at hno; exact absurd hno (by decide)
      have HE : Hid (((Pl.chooseE (m0 : Int) m0 L : Nat) : Int) = 60) := by show _ = _; unfold Pl.chooseE; rw [if_pos ha, if_neg hl2]; rfl
      obtain ⟨m, hmm⟩ : ∃ m, m = L.length := ⟨_, rfl⟩
      rw [← hmm] at HRO hl2 hL ⊢
      have t1 : decide ((2 : Int) < (m : Int)) = true := decide_eq_true (by omega)
      have t2 : decide (2 < m) = true := decide_eq_true (by omega)
      clear hok hno ha hl2 hmm hcap
      go_enter Tryd.func10, Tryd.ntmps10
      go_wp2_with fail
      refine HRO.out.mono ?_
      rintro e w1 ⟨rfl, hb⟩
      obtain ⟨k0, k1, k2, f0, f1, f2⟩ := X6.out.below hb X6.out.lt
      have HB1 : Hid (Below w.heap.size w w1) := below2 B6.out hb
      clear hb
      go_wp2
      refine bodyPost_ret (ret_cell_tmp rfl _ _ ⟨w.heap.size, 0, none⟩ (.agg #[.int .i64 0, .slice none 0 0, .slice none 0 0]) rfl (by go_simp)) rfl ?_
      exact choose_none HG.out HE.out (stored15_all HB1.out HB1.out.size (Nat.le_refl _) _ _ _)
    · have HE : Hid (((Pl.chooseE (N : Int) m0 L : Nat) : Int) = 1) := by show _ = _; unfold Pl.chooseE Pl.argsOk; rw [decide_eq_false (show ¬ (m0 : Int) = (N : Int) by omega)]; simp
      have t1 : ((m0 : Int) == (N : Int)) = false := by rw [beq_eq_false_iff_ne]; omega
      clear hok hno hmn
      go_enter Tryd.func10, Tryd.ntmps10
      go_wp2_with fail
      refine HRO.out.mono ?_
      rintro e w1 ⟨rfl, hb⟩
      obtain ⟨k0, k1, k2, f0, f1, f2⟩ := X6.out.below hb X6.out.lt
      have HB1 : Hid (Below w.heap.size w w1) := below2 B6.out hb
      clear hb
      go_wp2
      refine bodyPost_ret (ret_cell_tmp rfl _ _ ⟨w.heap.size, 0, none⟩ (.agg #[.int .i64 0, .slice none 0 0, .slice none 0 0]) rfl (by go_simp)) rfl ?_
      exact choose_none HG.out HE.out (stored15_all HB1.out HB1.out.size (Nat.le_refl _) _ _ _)
end Go.Proofs.YtlkbdhejfmljlaaDoor
