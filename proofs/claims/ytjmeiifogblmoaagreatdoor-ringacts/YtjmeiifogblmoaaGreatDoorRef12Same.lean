/- The walk of the document's own Same of records. -/
import Derived.Test.YtjmeiifogblmoaaGreatDoorMRecB
import Derived.Laws.StructEq
import Derived.OwnWalk
import Derived.Deep.Cut
import Derived.Deep.LoopGhost
import Derived.BigQuiet
namespace Go.Proofs.YtjmeiifogblmoaaGreatDoor
open Go.RowKit

namespace Rc
/-- the first n parts are the same -/
def eqTo (f g : Nat → Prt) : Nat → Bool
  | 0 => true
  | n + 1 => eqTo f g n && decide (f n = g n)
theorem eqTo_iff (f g : Nat → Prt) : ∀ n, eqTo f g n = true ↔ ∀ i, i < n → f i = g i
  | 0 => ⟨fun _ _ h => absurd h (Nat.not_lt_zero _), fun _ => rfl⟩
  | n + 1 => by
    unfold eqTo
    rw [Bool.and_eq_true, eqTo_iff f g n, decide_eq_true_iff]
    constructor
    · rintro ⟨h1, h2⟩ i hi
      by_cases e : i = n
      · subst e; exact h2
      · exact h1 i (by omega)
    · intro h; exact ⟨fun i hi => h i (by omega), h n (by omega)⟩
theorem eqTo_not {f g : Nat → Prt} {n i : Nat} (hi : i < n) (h : f i ≠ g i) : eqTo f g n = false := by
  cases e : eqTo f g n with
  | false => rfl
  | true => exact absurd ((eqTo_iff f g n).1 e i hi) h
/-- they are one record -/
def sameR (s : Nat) (r : Int) (n : Nat) (f : Nat → Prt) (s' : Nat) (r' : Int) (m : Nat) (g : Nat → Prt) : Bool := decide (s = s') && (decide (r = r') && (decide (n = m) && eqTo f g n))
theorem sameR_iff (s : Nat) (r : Int) (n : Nat) (f : Nat → Prt) (s' : Nat) (r' : Int) (m : Nat) (g : Nat → Prt) : sameR s r n f s' r' m g = true ↔ s = s' ∧ r = r' ∧ n = m ∧ ∀ i, i < n → f i = g i := by
  simp [sameR, eqTo_iff]
end Rc

theorem eqPrt (x y : Prt) (w : World) : (Op.equalIn 10000 119 (.agg #[.int .i64 x.col, .int .i64 x.off, .string x.data]) (.agg #[.int .i64 y.col, .int .i64 y.off, .string y.data])).run Tryz.prog w = .ok (decide (x = y)) w := by
  rw [run_equalIn_struct w 9999 119 _ _ (by kernel_rfl) (by kernel_rfl)]
  obtain ⟨a, b, c⟩ := x
  obtain ⟨a', b', c'⟩ := y
  dsimp only
  go_simp
  have e : (c.toList = c'.toList) = (c = c') := by
    have q := Pg.tx_eq c c'
    by_cases h : c = c'
    · subst h; simp
    · rw [decide_eq_false h] at q; simp [h] at q ⊢; exact q
  by_cases h1 : a = a' <;> by_cases h2 : b = b' <;> by_cases h3 : c = c' <;> simp [h1, h2, h3, e]

/-- two records, boxed -/
theorem same_start (w : World) (x0 x1 x2 y0 y1 y2 : Value) (t : TypeId) :
    let W := (w.alloc (.cells #[x0, x1, x2] t)).alloc (.cells #[y0, y1, y2] t)
    BoxAt W w.heap.size x0 x1 x2 ∧ BoxAt W (w.heap.size + 1) y0 y1 y2 ∧ Below w.heap.size w W := by
  intro W
  have b : Below (w.heap.size + 1) (w.alloc (.cells #[x0, x1, x2] t)) W := by
    have := (Below.refl (w.alloc (.cells #[x0, x1, x2] t)).heap.size (w.alloc (.cells #[x0, x1, x2] t))).alloc (Nat.le_refl _) (.cells #[y0, y1, y2] t)
    simpa using this
  refine ⟨(BoxAt.new w t x0 x1 x2).below b (by omega), ?_, ((Below.refl _ w).alloc (Nat.le_refl _) _).trans (b.mono (by omega))⟩
  have := BoxAt.new (w.alloc (.cells #[x0, x1, x2] t)) t y0 y1 y2
  simpa using this

set_option maxRecDepth 100000 in
set_option maxHeartbeats 4000000 in
theorem rSame12_no (s s' : Nat) (r r' : Int) (a a' : Option Addr) (n m c c' : Nat) (w : World) (h : s ≠ s' ∨ r ≠ r' ∨ n ≠ m) :
    Calls Tryz.prog 37 #[.agg #[.int .u64 (s : Int), .int .i64 r, .slice a n c], .agg #[.int .u64 (s' : Int), .int .i64 r', .slice a' m c']] w fun e w' => e = .returned (.bool false) ∧ Below w.heap.size w w' := by
  obtain ⟨hx, hy, hb⟩ := same_start w (.int .u64 (s : Int)) (.int .i64 r) (.slice a n c) (.int .u64 (s' : Int)) (.int .i64 r') (.slice a' m c') 74
  have HB : Hid _ := hb
  clear hb hx hy
  by_cases h1 : s = s'
  · by_cases h2 : r = r'
    · have h3 : n ≠ m := by rcases h with h | h | h <;> first | exact absurd h1 h | exact absurd h2 h | exact h
      have f1 : ((s : Int) != (s' : Int)) = false := by rw [bne_eq_false_iff_eq]; omega
      have f2 : (r != r') = false := by rw [bne_eq_false_iff_eq]; omega
      have f3 : ((n : Int) != (m : Int)) = true := by rw [bne_iff_ne]; omega
      clear h h1 h2 h3
      go_enter Tryz.func37, Tryz.ntmps37
      go_wp2
      go_ret
      exact ⟨rfl, HB.out⟩
    · have f1 : ((s : Int) != (s' : Int)) = false := by rw [bne_eq_false_iff_eq]; omega
      have f2 : (r != r') = true := by rw [bne_iff_ne]; omega
      clear h h1 h2
      go_enter Tryz.func37, Tryz.ntmps37
      go_wp2
      go_ret
      exact ⟨rfl, HB.out⟩
  · have f1 : ((s : Int) != (s' : Int)) = true := by rw [bne_iff_ne]; omega
    clear h h1
    go_enter Tryz.func37, Tryz.ntmps37
    go_wp2
    go_ret
    exact ⟨rfl, HB.out⟩

set_option maxRecDepth 100000 in
set_option maxHeartbeats 4000000 in
theorem rSame12_all (s n c c' : Nat) (r : Int) (a a' : Option Addr) (f g : Nat → Prt) (w : World) (hn : n ≤ 9223372036854775807) (hp : PartsR w a n f) (hq : PartsR w a' n g) :
    Calls Tryz.prog 37 #[.agg #[.int .u64 (s : Int), .int .i64 r, .slice a n c], .agg #[.int .u64 (s : Int), .int .i64 r, .slice a' n c']] w fun e w' => e = .returned (.bool (Rc.eqTo f g n)) ∧ Below w.heap.size w w' := by
  obtain ⟨hx, hy, hb⟩ := same_start w (.int .u64 (s : Int)) (.int .i64 r) (.slice a n c) (.int .u64 (s : Int)) (.int .i64 r) (.slice a' n c') 74
  obtain ⟨W0, hW0⟩ : ∃ W0, W0 = (w.alloc (.cells #[.int .u64 (s : Int), .int .i64 r, .slice a n c] 74)).alloc (.cells #[.int .u64 (s : Int), .int .i64 r, .slice a' n c'] 74) := ⟨_, rfl⟩
  have hW0' := hW0.symm
  rw [hW0'] at hx hy hb
  have HB : Hid (Below w.heap.size w W0) := hb
  have HXY : Hid (BoxAt W0 w.heap.size (.int .u64 (s : Int)) (.int .i64 r) (.slice a n c) ∧ BoxAt W0 (w.heap.size + 1) (.int .u64 (s : Int)) (.int .i64 r) (.slice a' n c')) := ⟨hx, hy⟩
  have HP : Hid (PartsR W0 a n f ∧ PartsR W0 a' n g) := ⟨hp.below hb, hq.below hb⟩
  have f1 : ((s : Int) != (s : Int)) = false := by simp
  have f2 : (r != r) = false := by simp
  have f3 : ((n : Int) != (n : Int)) = false := by simp
  have HN : Hid (n ≤ 9223372036854775807) := hn
  clear hx hy hb hW0 hp hq hn
  go_enter Tryz.func37, Tryz.ntmps37
  obtain ⟨x0, x1, x2, _, _, _⟩ := HXY.out.1
  obtain ⟨y0, y1, y2, _, _, _⟩ := HXY.out.2
  go_upto_region 3 with fail
  clear hW0' x0 x1 x2 y0 y1 y2
  go_wp2
  go_loopg [5] n (fun gg i wr => ∃ k : Nat, k ≤ n ∧ gg = n - k ∧ i = .int .i64 (k : Int) ∧ Below W0.heap.size W0 wr ∧ Rc.eqTo f g k = true)
  case atStart => exact ⟨0, Nat.zero_le _, rfl, rfl, Below.refl _ _, rfl⟩
  case round =>
  obtain ⟨k, hk, rfl, rfl, hb, hok⟩ := hrel
  have HBr : Hid (Below W0.heap.size W0 wr) := hb
  have HOk : Hid (Rc.eqTo f g k = true) := hok
  have HBW : Hid (Below w.heap.size w wr) := HB.out.trans (hb.mono HB.out.size)
  obtain ⟨_, _, x2, _, _, _⟩ := HXY.out.1.below hb HXY.out.1.lt
  obtain ⟨_, _, y2, _, _, _⟩ := HXY.out.2.below hb HXY.out.2.lt
  clear hb hok
  by_cases hlt : k < n
  case neg =>
    have hkn : k = n := by omega
    subst hkn
    clear hlt hk
    go_wp2
    go_ret
    exact ⟨by rw [HOk.out]; rfl, HBW.out⟩
  case pos =>
  have hki : (k : Int) < (n : Int) := by omega
  obtain ⟨b, o, rfl, hpk⟩ := HP.out.1 k hlt
  obtain ⟨b', o', rfl, hqk⟩ := HP.out.2 k hlt
  obtain ⟨c0, c1, c2⟩ := hpk.below HBr.out hpk.lt
  obtain ⟨d0, d1, d2⟩ := hqk.below HBr.out hqk.lt
  have heq := eqPrt (f k) (g k)
  obtain ⟨x, hx⟩ : ∃ x, x = f k := ⟨_, rfl⟩
  obtain ⟨y, hy⟩ : ∃ y, y = g k := ⟨_, rfl⟩
  rw [← hx] at c0 c1 c2 heq
  rw [← hy] at d0 d1 d2 heq
  have HX : Hid (x = f k) := hx
  have HY : Hid (y = g k) := hy
  have HLT : Hid (k < n) := hlt
  clear hpk hqk hx hy
  obtain ⟨xa, xb, xc⟩ := x
  obtain ⟨ya, yb, yc⟩ := y
  dsimp only at c0 c1 c2 d0 d1 d2 heq
  by_cases he : (⟨xa, xb, xc⟩ : Prt) = ⟨ya, yb, yc⟩
  · rw [decide_eq_true he] at heq
    have HOk2 : Hid (Rc.eqTo f g (k + 1) = true) := by show _ = _; unfold Rc.eqTo; rw [HOk.out, ← HX.out, ← HY.out, decide_eq_true he]; rfl
    clear he HX HY
    go_upto_region 6 with fail
    go_quiet (fail)
    go_wp2
    go_roundg (n - (k + 1))
    case measure => have := HLT.out; omega
    case rel => exact ⟨k + 1, HLT.out, rfl, by rw [IntWalk.wrap64_in _ (by have := HLT.out; have := HN.out; omega)]; rfl, below_drewN HBr.out _, HOk2.out⟩
  · rw [decide_eq_false he] at heq
    have HNo : Hid (Rc.eqTo f g n = false) := Rc.eqTo_not HLT.out (by rw [← HX.out, ← HY.out]; exact he)
    clear he HX HY
    go_upto_region 6 with fail
    go_quiet (fail)
    go_wp2
    go_ret
    exact ⟨by rw [HNo.out]; rfl, below_drewN HBW.out _⟩

/-- the document's own Same, of any two records -/
theorem rSame12_any (s s' n m c c' : Nat) (r r' : Int) (a a' : Option Addr) (f g : Nat → Prt) (w : World) (hn : n ≤ 9223372036854775807) (hp : PartsR w a n f) (hq : PartsR w a' m g) :
    Calls Tryz.prog 37 #[.agg #[.int .u64 (s : Int), .int .i64 r, .slice a n c], .agg #[.int .u64 (s' : Int), .int .i64 r', .slice a' m c']] w fun e w' => e = .returned (.bool (Rc.sameR s r n f s' r' m g)) ∧ Below w.heap.size w w' := by
  by_cases h : s = s' ∧ r = r' ∧ n = m
  · obtain ⟨rfl, rfl, rfl⟩ := h
    have e : Rc.sameR s r n f s r n g = Rc.eqTo f g n := by simp [Rc.sameR]
    rw [e]
    exact rSame12_all s n c c' r a a' f g w hn hp hq
  · have e : Rc.sameR s r n f s' r' m g = false := by
      cases q : Rc.sameR s r n f s' r' m g with
      | false => rfl
      | true => obtain ⟨h1, h2, h3, _⟩ := (Rc.sameR_iff _ _ _ _ _ _ _ _).1 q; exact absurd ⟨h1, h2, h3⟩ h
    rw [e]
    exact rSame12_no s s' r r' a a' n m c c' w (by by_cases h1 : s = s' <;> by_cases h2 : r = r' <;> by_cases h3 : n = m <;> simp_all)
end Go.Proofs.YtjmeiifogblmoaaGreatDoor
