/- Plans: the walks of the four tests' row, and of the cheapest way. -/
import Derived.Test.YtlkbdhejfmljlaaDoorPpTests
import Derived.Test.YtlkbdhejfmljlaaDoorRef15Ch
import Derived.Deep.MidRow
import Derived.Deep.WholeRow
import Derived.Laws.EntriesVeiled
namespace Go.Proofs.YtlkbdhejfmljlaaDoor
open Go.RowKit
attribute [local go_sem] Oper.semAt_some

def tests15 : Array Value := #[.func (.func 32) #[] #[], .func (.func 33) #[] #[], .func (.func 34) #[] #[], .func (.func 35) #[] #[]]
set_option maxRecDepth 100000 in
set_option maxHeartbeats 1000000 in
theorem tests_any (w : World) : Calls Tryd.prog 25 #[] w (Same15 w (.agg tests15)) := by
  go_enter Tryd.func25, Tryd.ntmps25
  go_wp2
  refine bodyPost_ret (ret_cell rfl _ _ ⟨w.heap.size, 0, none⟩ (.agg tests15) rfl (by unfold tests15; go_simp)) rfl ?_
  exact ⟨rfl, job_below w _ _⟩
theorem index15_0 (w : World) : (Instr.index 59 (.agg #[.func (.func 32) #[] #[], .func (.func 33) #[] #[], .func (.func 34) #[] #[], .func (.func 35) #[] #[]]) (.int .i64 0)).run Tryd.prog w = .ok (.func (.func 32) #[] #[]) w := by kernel_rfl
theorem index15_1 (w : World) : (Instr.index 59 (.agg #[.func (.func 32) #[] #[], .func (.func 33) #[] #[], .func (.func 34) #[] #[], .func (.func 35) #[] #[]]) (.int .i64 1)).run Tryd.prog w = .ok (.func (.func 33) #[] #[]) w := by kernel_rfl
theorem index15_2 (w : World) : (Instr.index 59 (.agg #[.func (.func 32) #[] #[], .func (.func 33) #[] #[], .func (.func 34) #[] #[], .func (.func 35) #[] #[]]) (.int .i64 2)).run Tryd.prog w = .ok (.func (.func 34) #[] #[]) w := by kernel_rfl
theorem index15_3 (w : World) : (Instr.index 59 (.agg #[.func (.func 32) #[] #[], .func (.func 33) #[] #[], .func (.func 34) #[] #[], .func (.func 35) #[] #[]]) (.int .i64 3)).run Tryd.prog w = .ok (.func (.func 35) #[] #[]) w := by kernel_rfl

/-- what the cheapest way is told to be -/
def BestAns (w : World) (N : Nat) (B : Nat → Bool) (L : List Int) (e : Ending) (w' : World) : Prop :=
  (∃ x : Nat, x < 1024 ∧ Rs.ints x = (Pl.bestT N B L 4).2 ∧ e = .returned (.tuple #[.int .i64 (Pl.bestT N B L 4).1, .int .u64 (x : Int)])) ∧ Below w.heap.size w w'

set_option maxRecDepth 100000 in
set_option maxHeartbeats 8000000 in
theorem cheapest_any {N : Nat} {B : Nat → Bool} {L : List Int} {d p r l : Nat} (J : Job N B L d p r l) (w : World) :
    Calls Tryd.prog 20 #[(.agg #[.int .u64 (d : Int), .int .u64 (p : Int), .int .u64 (r : Int), .int .u64 (l : Int)])] w (BestAns w N B L) := by
  have x1 := Box4.new w 47 (.int .u64 (d : Int)) (.int .u64 (p : Int)) (.int .u64 (r : Int)) (.int .u64 (l : Int))
  have b1 := job_below w #[.int .u64 (d : Int), .int .u64 (p : Int), .int .u64 (r : Int), .int .u64 (l : Int)] 47
  obtain ⟨bb, hbb⟩ : ∃ bb, bb = w.heap.size := ⟨_, rfl⟩
  have HBB : Hid (bb = w.heap.size) := hbb
  have X1 : Hid (Box4 (w.alloc (.cells #[.int .u64 (d : Int), .int .u64 (p : Int), .int .u64 (r : Int), .int .u64 (l : Int)] 47)) w.heap.size (.int .u64 (d : Int)) (.int .u64 (p : Int)) (.int .u64 (r : Int)) (.int .u64 (l : Int)) ∧ Below w.heap.size w (w.alloc (.cells #[.int .u64 (d : Int), .int .u64 (p : Int), .int .u64 (r : Int), .int .u64 (l : Int)] 47))) := ⟨x1, b1⟩
  have HJ : Hid (Job N B L d p r l) := J
  clear x1 b1 J
  go_enter Tryd.func20, Tryd.ntmps20
  go_wp2_with fail
  refine (tests_any _).mono ?_
  rintro e w1 ⟨rfl, hb1⟩
  have X2 : Hid (Box4 w1 bb (.int .u64 (d : Int)) (.int .u64 (p : Int)) (.int .u64 (r : Int)) (.int .u64 (l : Int)) ∧ Below w.heap.size w w1) := ⟨by rw [hbb]; exact X1.out.1.kept hb1, below2 X1.out.2 hb1⟩
  clear hb1 X1
  unfold tests15
  go_wp2_with fail
  rw [← hbb]
  clear hbb
  go_loopg [4, 5, 11] 4 (fun gg s4 s5 s11 wr => ∃ t : Nat, t ≤ 4 ∧ gg = 4 - t ∧ s11 = .int .i64 (t : Int) ∧ ∃ (bst : Int) (x : Nat), s4 = .int .i64 bst ∧ s5 = .int .u64 (x : Int) ∧ (Box4 wr bb (.int .u64 (d : Int)) (.int .u64 (p : Int)) (.int .u64 (r : Int)) (.int .u64 (l : Int)) ∧ Below w.heap.size w wr) ∧ x < 1024 ∧ bst = (Pl.bestT N B L t).1 ∧ Rs.ints x = (Pl.bestT N B L t).2)
  case atStart => exact ⟨0, Nat.zero_le _, rfl, rfl, 0, 0, rfl, rfl, X2.out, by decide, rfl, Rs.ints_zero⟩
  case round =>
    obtain ⟨t, ht, rfl, rfl, bst, x, rfl, rfl, ⟨hX, hb⟩, hx, hbst, hints⟩ := hrel
    have BB : Hid (Below w.heap.size w wr) := hb
    have HX : Hid (Box4 wr bb (.int .u64 (d : Int)) (.int .u64 (p : Int)) (.int .u64 (r : Int)) (.int .u64 (l : Int))) := hX
    have HI : Hid (bst = (Pl.bestT N B L t).1 ∧ Rs.ints x = (Pl.bestT N B L t).2) := ⟨hbst, hints⟩
    have hsz := hX.lt
    obtain ⟨k0, k1, k2, k3, f0, f1, f2, f3⟩ := hX
    clear X2 hb hbst hints
    by_cases hlt : t < 4
    · have step_no : Hid (∀ {c : Bool}, Pl.canB N B L ((t : Int) + 1) = c → (c = false ∨ (bst ≠ 0 ∧ ¬ (Pl.ansL N B L ((t : Int) + 1)).length < (Pl.bestT N B L t).2.length)) → Pl.bestT N B L (t + 1) = Pl.bestT N B L t) := fun hc h => Pl.bestT_no (by rw [hc, ← HI.out.1]; exact h)
      have step_yes : Hid (Pl.canB N B L ((t : Int) + 1) = true → (bst = 0 ∨ (Pl.ansL N B L ((t : Int) + 1)).length < (Pl.bestT N B L t).2.length) → Pl.bestT N B L (t + 1) = ((t : Int) + 1, Pl.ansL N B L ((t : Int) + 1))) := fun hc h => Pl.bestT_yes hc (by rw [← HI.out.1]; exact h)
      have CX : Hid (∀ W, Calls Tryd.prog 26 #[.int .u64 (x : Int)] W fun e w' => e = .returned (.int .i64 (Rs.cnt x : Nat)) ∧ w' = W) := fun W => count_any x hx W
      obtain ⟨cx, hcx⟩ : ∃ cx, cx = Rs.cnt x := ⟨_, rfl⟩
      rw [← hcx] at CX
      have HCX : Hid (cx = (Pl.bestT N B L t).2.length) := by show _ = _; rw [hcx, ← HI.out.2]; rfl
      clear hcx
      obtain rfl | rfl | rfl | rfl : t = 0 ∨ t = 1 ∨ t = 2 ∨ t = 3 := by omega
      · have hix := index15_0
        obtain ⟨y, hy⟩ : ∃ y, TestOf N B L d p r l 1 32 y := ⟨_, test_full HJ.out⟩
        have CT := hy.2.2
        obtain ⟨c, hc⟩ : ∃ c, Pl.canB N B L 1 = c := ⟨_, rfl⟩
        rw [hc] at CT
        have HCT : Hid (∀ W, Calls Tryd.prog 32 #[(.agg #[.int .u64 (d : Int), .int .u64 (p : Int), .int .u64 (r : Int), .int .u64 (l : Int)])] W (Same15 W (.tuple #[.int .u64 (y : Int), .bool c]))) := CT
        have HC : Hid (Pl.canB N B L 1 = c) := hc
        have hy1 := hy.1
        have HY : Hid (Pl.canB N B L 1 = true → Rs.ints y = Pl.ansL N B L 1) := hy.2.1
        clear CT hy hc
        cases c with
        | false =>
          have HS : Hid (Pl.bestT N B L (0 + 1) = Pl.bestT N B L 0) := step_no.out HC.out (.inl rfl)
          clear step_no step_yes
          go_wp2_with (go_at_call 32; refine (HCT.out _).mono ?_; rintro e w2 ⟨rfl, hb2⟩; have B2 : Hid (Below wr.heap.size wr w2) := hb2; clear hb2)
          go_roundg (4 - (0 + 1))
          case measure => omega
          case rel => exact ⟨0 + 1, by omega, rfl, by go_num, bst, x, rfl, rfl, ⟨HX.out.kept B2.out, below2 BB.out B2.out⟩, hx, by rw [HS.out]; exact HI.out.1, by rw [HS.out]; exact HI.out.2⟩
        | true =>
          have CY : Hid (∀ W, Calls Tryd.prog 26 #[.int .u64 (y : Int)] W fun e w' => e = .returned (.int .i64 (Rs.cnt y : Nat)) ∧ w' = W) := fun W => count_any y hy1 W
          obtain ⟨cy, hcy⟩ : ∃ cy, cy = Rs.cnt y := ⟨_, rfl⟩
          rw [← hcy] at CY
          have HYI : Hid (Rs.ints y = Pl.ansL N B L 1) := HY.out HC.out
          have HCY : Hid (cy = (Pl.ansL N B L 1).length) := by show _ = _; rw [hcy, ← HYI.out]; rfl
          clear hcy HY
          by_cases h0 : bst = 0
          · have HS : Hid (Pl.bestT N B L (0 + 1) = (1, Pl.ansL N B L 1)) := step_yes.out HC.out (.inl h0)
            have u0 : (bst == 0) = true := by rw [h0]; rfl
            clear step_no step_yes h0
            go_wp2_with (go_at_call 32; refine (HCT.out _).mono ?_; rintro e w2 ⟨rfl, hb2⟩; have B2 : Hid (Below wr.heap.size wr w2) := hb2; clear hb2)
            go_roundg (4 - (0 + 1))
            case measure => omega
            case rel => exact ⟨0 + 1, by omega, rfl, by go_num, 1, y, rfl, rfl, ⟨HX.out.kept B2.out, below2 BB.out B2.out⟩, hy1, by rw [HS.out], by rw [HS.out]; exact HYI.out⟩
          · have u0 : (bst == 0) = false := by rw [beq_eq_false_iff_ne]; exact h0
            by_cases h1 : cy < cx
            · have HS : Hid (Pl.bestT N B L (0 + 1) = (1, Pl.ansL N B L 1)) := step_yes.out HC.out (.inr (by have h := h1; rw [HCY.out, HCX.out] at h; exact h))
              have u1 : decide ((cy : Int) < (cx : Int)) = true := decide_eq_true (by omega)
              have u2 : decide (cy < cx) = true := decide_eq_true h1
              clear step_no step_yes h0 h1
              have tk1 : True := trivial
              go_wp2_with (first | (go_at_call 32; refine (HCT.out _).mono ?_; rintro e w2 ⟨rfl, hb2⟩; have B2 : Hid (Below wr.heap.size wr w2) := hb2; clear hb2) | (go_at_call 26; have _t := tk1; refine (CY.out _).mono ?_; rintro e w3 ⟨rfl, rfl⟩; clear _t tk1) | (go_at_call 26; refine (CX.out _).mono ?_; rintro e w3 ⟨rfl, rfl⟩))
              go_roundg (4 - (0 + 1))
              case measure => omega
              case rel => exact ⟨0 + 1, by omega, rfl, by go_num, 1, y, rfl, rfl, ⟨HX.out.kept B2.out, below2 BB.out B2.out⟩, hy1, by rw [HS.out], by rw [HS.out]; exact HYI.out⟩
            · have HS : Hid (Pl.bestT N B L (0 + 1) = Pl.bestT N B L 0) := step_no.out HC.out (.inr ⟨h0, by have h := h1; rw [HCY.out, HCX.out] at h; exact h⟩)
              have u1 : decide ((cy : Int) < (cx : Int)) = false := decide_eq_false (by omega)
              have u2 : decide (cy < cx) = false := decide_eq_false h1
              clear step_no step_yes h0 h1
              have tk1 : True := trivial
              go_wp2_with (first | (go_at_call 32; refine (HCT.out _).mono ?_; rintro e w2 ⟨rfl, hb2⟩; have B2 : Hid (Below wr.heap.size wr w2) := hb2; clear hb2) | (go_at_call 26; have _t := tk1; refine (CY.out _).mono ?_; rintro e w3 ⟨rfl, rfl⟩; clear _t tk1) | (go_at_call 26; refine (CX.out _).mono ?_; rintro e w3 ⟨rfl, rfl⟩))
              go_roundg (4 - (0 + 1))
              case measure => omega
              case rel => exact ⟨0 + 1, by omega, rfl, by go_num, bst, x, rfl, rfl, ⟨HX.out.kept B2.out, below2 BB.out B2.out⟩, hx, by rw [HS.out]; exact HI.out.1, by rw [HS.out]; exact HI.out.2⟩
      · have hix := index15_1
        obtain ⟨y, hy⟩ : ∃ y, TestOf N B L d p r l 2 33 y := ⟨_, test_modify HJ.out⟩
        have CT := hy.2.2
        obtain ⟨c, hc⟩ : ∃ c, Pl.canB N B L 2 = c := ⟨_, rfl⟩
        rw [hc] at CT
        have HCT : Hid (∀ W, Calls Tryd.prog 33 #[(.agg #[.int .u64 (d : Int), .int .u64 (p : Int), .int .u64 (r : Int), .int .u64 (l : Int)])] W (Same15 W (.tuple #[.int .u64 (y : Int), .bool c]))) := CT
        have HC : Hid (Pl.canB N B L 2 = c) := hc
        have hy1 := hy.1
        have HY : Hid (Pl.canB N B L 2 = true → Rs.ints y = Pl.ansL N B L 2) := hy.2.1
        clear CT hy hc
        cases c with
        | false =>
          have HS : Hid (Pl.bestT N B L (1 + 1) = Pl.bestT N B L 1) := step_no.out HC.out (.inl rfl)
          clear step_no step_yes
          go_wp2_with (go_at_call 33; refine (HCT.out _).mono ?_; rintro e w2 ⟨rfl, hb2⟩; have B2 : Hid (Below wr.heap.size wr w2) := hb2; clear hb2)
          go_roundg (4 - (1 + 1))
          case measure => omega
          case rel => exact ⟨1 + 1, by omega, rfl, by go_num, bst, x, rfl, rfl, ⟨HX.out.kept B2.out, below2 BB.out B2.out⟩, hx, by rw [HS.out]; exact HI.out.1, by rw [HS.out]; exact HI.out.2⟩
        | true =>
          have CY : Hid (∀ W, Calls Tryd.prog 26 #[.int .u64 (y : Int)] W fun e w' => e = .returned (.int .i64 (Rs.cnt y : Nat)) ∧ w' = W) := fun W => count_any y hy1 W
          obtain ⟨cy, hcy⟩ : ∃ cy, cy = Rs.cnt y := ⟨_, rfl⟩
          rw [← hcy] at CY
          have HYI : Hid (Rs.ints y = Pl.ansL N B L 2) := HY.out HC.out
          have HCY : Hid (cy = (Pl.ansL N B L 2).length) := by show _ = _; rw [hcy, ← HYI.out]; rfl
          clear hcy HY
          by_cases h0 : bst = 0
          · have HS : Hid (Pl.bestT N B L (1 + 1) = (2, Pl.ansL N B L 2)) := step_yes.out HC.out (.inl h0)
            have u0 : (bst == 0) = true := by rw [h0]; rfl
            clear step_no step_yes h0
            go_wp2_with (go_at_call 33; refine (HCT.out _).mono ?_; rintro e w2 ⟨rfl, hb2⟩; have B2 : Hid (Below wr.heap.size wr w2) := hb2; clear hb2)
            go_roundg (4 - (1 + 1))
            case measure => omega
            case rel => exact ⟨1 + 1, by omega, rfl, by go_num, 2, y, rfl, rfl, ⟨HX.out.kept B2.out, below2 BB.out B2.out⟩, hy1, by rw [HS.out], by rw [HS.out]; exact HYI.out⟩
          · have u0 : (bst == 0) = false := by rw [beq_eq_false_iff_ne]; exact h0
            by_cases h1 : cy < cx
            · have HS : Hid (Pl.bestT N B L (1 + 1) = (2, Pl.ansL N B L 2)) := step_yes.out HC.out (.inr (by have h := h1; rw [HCY.out, HCX.out] at h; exact h))
              have u1 : decide ((cy : Int) < (cx : Int)) = true := decide_eq_true (by omega)
              have u2 : decide (cy < cx) = true := decide_eq_true h1
              clear step_no step_yes h0 h1
              have tk1 : True := trivial
              go_wp2_with (first | (go_at_call 33; refine (HCT.out _).mono ?_; rintro e w2 ⟨rfl, hb2⟩; have B2 : Hid (Below wr.heap.size wr w2) := hb2; clear hb2) | (go_at_call 26; have _t := tk1; refine (CY.out _).mono ?_; rintro e w3 ⟨rfl, rfl⟩; clear _t tk1) | (go_at_call 26; refine (CX.out _).mono ?_; rintro e w3 ⟨rfl, rfl⟩))
              go_roundg (4 - (1 + 1))
              case measure => omega
              case rel => exact ⟨1 + 1, by omega, rfl, by go_num, 2, y, rfl, rfl, ⟨HX.out.kept B2.out, below2 BB.out B2.out⟩, hy1, by rw [HS.out], by rw [HS.out]; exact HYI.out⟩
            · have HS : Hid (Pl.bestT N B L (1 + 1) = Pl.bestT N B L 1) := step_no.out HC.out (.inr ⟨h0, by have h := h1; rw [HCY.out, HCX.out] at h; exact h⟩)
              have u1 : decide ((cy : Int) < (cx : Int)) = false := decide_eq_false (by omega)
              have u2 : decide (cy < cx) = false := decide_eq_false h1
              clear step_no step_yes h0 h1
              have tk1 : True := trivial
              go_wp2_with (first | (go_at_call 33; refine (HCT.out _).mono ?_; rintro e w2 ⟨rfl, hb2⟩; have B2 : Hid (Below wr.heap.size wr w2) := hb2; clear hb2) | (go_at_call 26; have _t := tk1; refine (CY.out _).mono ?_; rintro e w3 ⟨rfl, rfl⟩; clear _t tk1) | (go_at_call 26; refine (CX.out _).mono ?_; rintro e w3 ⟨rfl, rfl⟩))
              go_roundg (4 - (1 + 1))
              case measure => omega
              case rel => exact ⟨1 + 1, by omega, rfl, by go_num, bst, x, rfl, rfl, ⟨HX.out.kept B2.out, below2 BB.out B2.out⟩, hx, by rw [HS.out]; exact HI.out.1, by rw [HS.out]; exact HI.out.2⟩
      · have hix := index15_2
        obtain ⟨y, hy⟩ : ∃ y, TestOf N B L d p r l 3 34 y := ⟨_, test_rebuild HJ.out⟩
        have CT := hy.2.2
        obtain ⟨c, hc⟩ : ∃ c, Pl.canB N B L 3 = c := ⟨_, rfl⟩
        rw [hc] at CT
        have HCT : Hid (∀ W, Calls Tryd.prog 34 #[(.agg #[.int .u64 (d : Int), .int .u64 (p : Int), .int .u64 (r : Int), .int .u64 (l : Int)])] W (Same15 W (.tuple #[.int .u64 (y : Int), .bool c]))) := CT
        have HC : Hid (Pl.canB N B L 3 = c) := hc
        have hy1 := hy.1
        have HY : Hid (Pl.canB N B L 3 = true → Rs.ints y = Pl.ansL N B L 3) := hy.2.1
        clear CT hy hc
        cases c with
        | false =>
          have HS : Hid (Pl.bestT N B L (2 + 1) = Pl.bestT N B L 2) := step_no.out HC.out (.inl rfl)
          clear step_no step_yes
          go_wp2_with (go_at_call 34; refine (HCT.out _).mono ?_; rintro e w2 ⟨rfl, hb2⟩; have B2 : Hid (Below wr.heap.size wr w2) := hb2; clear hb2)
          go_roundg (4 - (2 + 1))
          case measure => omega
          case rel => exact ⟨2 + 1, by omega, rfl, by go_num, bst, x, rfl, rfl, ⟨HX.out.kept B2.out, below2 BB.out B2.out⟩, hx, by rw [HS.out]; exact HI.out.1, by rw [HS.out]; exact HI.out.2⟩
        | true =>
          have CY : Hid (∀ W, Calls Tryd.prog 26 #[.int .u64 (y : Int)] W fun e w' => e = .returned (.int .i64 (Rs.cnt y : Nat)) ∧ w' = W) := fun W => count_any y hy1 W
          obtain ⟨cy, hcy⟩ : ∃ cy, cy = Rs.cnt y := ⟨_, rfl⟩
          rw [← hcy] at CY
          have HYI : Hid (Rs.ints y = Pl.ansL N B L 3) := HY.out HC.out
          have HCY : Hid (cy = (Pl.ansL N B L 3).length) := by show _ = _; rw [hcy, ← HYI.out]; rfl
          clear hcy HY
          by_cases h0 : bst = 0
          · have HS : Hid (Pl.bestT N B L (2 + 1) = (3, Pl.ansL N B L 3)) := step_yes.out HC.out (.inl h0)
            have u0 : (bst == 0) = true := by rw [h0]; rfl
            clear step_no step_yes h0
            go_wp2_with (go_at_call 34; refine (HCT.out _).mono ?_; rintro e w2 ⟨rfl, hb2⟩; have B2 : Hid (Below wr.heap.size wr w2) := hb2; clear hb2)
            go_roundg (4 - (2 + 1))
            case measure => omega
            case rel => exact ⟨2 + 1, by omega, rfl, by go_num, 3, y, rfl, rfl, ⟨HX.out.kept B2.out, below2 BB.out B2.out⟩, hy1, by rw [HS.out], by rw [HS.out]; exact HYI.out⟩
          · have u0 : (bst == 0) = false := by rw [beq_eq_false_iff_ne]; exact h0
            by_cases h1 : cy < cx
            · have HS : Hid (Pl.bestT N B L (2 + 1) = (3, Pl.ansL N B L 3)) := step_yes.out HC.out (.inr (by have h := h1; rw [HCY.out, HCX.out] at h; exact h))
              have u1 : decide ((cy : Int) < (cx : Int)) = true := decide_eq_true (by omega)
              have u2 : decide (cy < cx) = true := decide_eq_true h1
              clear step_no step_yes h0 h1
              have tk1 : True := trivial
              go_wp2_with (first | (go_at_call 34; refine (HCT.out _).mono ?_; rintro e w2 ⟨rfl, hb2⟩; have B2 : Hid (Below wr.heap.size wr w2) := hb2; clear hb2) | (go_at_call 26; have _t := tk1; refine (CY.out _).mono ?_; rintro e w3 ⟨rfl, rfl⟩; clear _t tk1) | (go_at_call 26; refine (CX.out _).mono ?_; rintro e w3 ⟨rfl, rfl⟩))
              go_roundg (4 - (2 + 1))
              case measure => omega
              case rel => exact ⟨2 + 1, by omega, rfl, by go_num, 3, y, rfl, rfl, ⟨HX.out.kept B2.out, below2 BB.out B2.out⟩, hy1, by rw [HS.out], by rw [HS.out]; exact HYI.out⟩
            · have HS : Hid (Pl.bestT N B L (2 + 1) = Pl.bestT N B L 2) := step_no.out HC.out (.inr ⟨h0, by have h := h1; rw [HCY.out, HCX.out] at h; exact h⟩)
              have u1 : decide ((cy : Int) < (cx : Int)) = false := decide_eq_false (by omega)
              have u2 : decide (cy < cx) = false := decide_eq_false h1
              clear step_no step_yes h0 h1
              have tk1 : True := trivial
              go_wp2_with (first | (go_at_call 34; refine (HCT.out _).mono ?_; rintro e w2 ⟨rfl, hb2⟩; have B2 : Hid (Below wr.heap.size wr w2) := hb2; clear hb2) | (go_at_call 26; have _t := tk1; refine (CY.out _).mono ?_; rintro e w3 ⟨rfl, rfl⟩; clear _t tk1) | (go_at_call 26; refine (CX.out _).mono ?_; rintro e w3 ⟨rfl, rfl⟩))
              go_roundg (4 - (2 + 1))
              case measure => omega
              case rel => exact ⟨2 + 1, by omega, rfl, by go_num, bst, x, rfl, rfl, ⟨HX.out.kept B2.out, below2 BB.out B2.out⟩, hx, by rw [HS.out]; exact HI.out.1, by rw [HS.out]; exact HI.out.2⟩
      · have hix := index15_3
        obtain ⟨y, hy⟩ : ∃ y, TestOf N B L d p r l 4 35 y := ⟨_, test_whole HJ.out⟩
        have CT := hy.2.2
        obtain ⟨c, hc⟩ : ∃ c, Pl.canB N B L 4 = c := ⟨_, rfl⟩
        rw [hc] at CT
        have HCT : Hid (∀ W, Calls Tryd.prog 35 #[(.agg #[.int .u64 (d : Int), .int .u64 (p : Int), .int .u64 (r : Int), .int .u64 (l : Int)])] W (Same15 W (.tuple #[.int .u64 (y : Int), .bool c]))) := CT
        have HC : Hid (Pl.canB N B L 4 = c) := hc
        have hy1 := hy.1
        have HY : Hid (Pl.canB N B L 4 = true → Rs.ints y = Pl.ansL N B L 4) := hy.2.1
        clear CT hy hc
        cases c with
        | false =>
          have HS : Hid (Pl.bestT N B L (3 + 1) = Pl.bestT N B L 3) := step_no.out HC.out (.inl rfl)
          clear step_no step_yes
          go_wp2_with (go_at_call 35; refine (HCT.out _).mono ?_; rintro e w2 ⟨rfl, hb2⟩; have B2 : Hid (Below wr.heap.size wr w2) := hb2; clear hb2)
          go_roundg (4 - (3 + 1))
          case measure => omega
          case rel => exact ⟨3 + 1, by omega, rfl, by go_num, bst, x, rfl, rfl, ⟨HX.out.kept B2.out, below2 BB.out B2.out⟩, hx, by rw [HS.out]; exact HI.out.1, by rw [HS.out]; exact HI.out.2⟩
        | true =>
          have CY : Hid (∀ W, Calls Tryd.prog 26 #[.int .u64 (y : Int)] W fun e w' => e = .returned (.int .i64 (Rs.cnt y : Nat)) ∧ w' = W) := fun W => count_any y hy1 W
          obtain ⟨cy, hcy⟩ : ∃ cy, cy = Rs.cnt y := ⟨_, rfl⟩
          rw [← hcy] at CY
          have HYI : Hid (Rs.ints y = Pl.ansL N B L 4) := HY.out HC.out
          have HCY : Hid (cy = (Pl.ansL N B L 4).length) := by show _ = _; rw [hcy, ← HYI.out]; rfl
          clear hcy HY
          by_cases h0 : bst = 0
          · have HS : Hid (Pl.bestT N B L (3 + 1) = (4, Pl.ansL N B L 4)) := step_yes.out HC.out (.inl h0)
            have u0 : (bst == 0) = true := by rw [h0]; rfl
            clear step_no step_yes h0
            go_wp2_with (go_at_call 35; refine (HCT.out _).mono ?_; rintro e w2 ⟨rfl, hb2⟩; have B2 : Hid (Below wr.heap.size wr w2) := hb2; clear hb2)
            go_roundg (4 - (3 + 1))
            case measure => omega
            case rel => exact ⟨3 + 1, by omega, rfl, by go_num, 4, y, rfl, rfl, ⟨HX.out.kept B2.out, below2 BB.out B2.out⟩, hy1, by rw [HS.out], by rw [HS.out]; exact HYI.out⟩
          · have u0 : (bst == 0) = false := by rw [beq_eq_false_iff_ne]; exact h0
            by_cases h1 : cy < cx
            · have HS : Hid (Pl.bestT N B L (3 + 1) = (4, Pl.ansL N B L 4)) := step_yes.out HC.out (.inr (by have h := h1; rw [HCY.out, HCX.out] at h; exact h))
              have u1 : decide ((cy : Int) < (cx : Int)) = true := decide_eq_true (by omega)
              have u2 : decide (cy < cx) = true := decide_eq_true h1
              clear step_no step_yes h0 h1
              have tk1 : True := trivial
              go_wp2_with (first | (go_at_call 35; refine (HCT.out _).mono ?_; rintro e w2 ⟨rfl, hb2⟩; have B2 : Hid (Below wr.heap.size wr w2) := hb2; clear hb2) | (go_at_call 26; have _t := tk1; refine (CY.out _).mono ?_; rintro e w3 ⟨rfl, rfl⟩; clear _t tk1) | (go_at_call 26; refine (CX.out _).mono ?_; rintro e w3 ⟨rfl, rfl⟩))
              go_roundg (4 - (3 + 1))
              case measure => omega
              case rel => exact ⟨3 + 1, by omega, rfl, by go_num, 4, y, rfl, rfl, ⟨HX.out.kept B2.out, below2 BB.out B2.out⟩, hy1, by rw [HS.out], by rw [HS.out]; exact HYI.out⟩
            · have HS : Hid (Pl.bestT N B L (3 + 1) = Pl.bestT N B L 3) := step_no.out HC.out (.inr ⟨h0, by have h := h1; rw [HCY.out, HCX.out] at h; exact h⟩)
              have u1 : decide ((cy : Int) < (cx : Int)) = false := decide_eq_false (by omega)
              have u2 : decide (cy < cx) = false := decide_eq_false h1
              clear step_no step_yes h0 h1
              have tk1 : True := trivial
              go_wp2_with (first | (go_at_call 35; refine (HCT.out _).mono ?_; rintro e w2 ⟨rfl, hb2⟩; have B2 : Hid (Below wr.heap.size wr w2) := hb2; clear hb2) | (go_at_call 26; have _t := tk1; refine (CY.out _).mono ?_; rintro e w3 ⟨rfl, rfl⟩; clear _t tk1) | (go_at_call 26; refine (CX.out _).mono ?_; rintro e w3 ⟨rfl, rfl⟩))
              go_roundg (4 - (3 + 1))
              case measure => omega
              case rel => exact ⟨3 + 1, by omega, rfl, by go_num, bst, x, rfl, rfl, ⟨HX.out.kept B2.out, below2 BB.out B2.out⟩, hx, by rw [HS.out]; exact HI.out.1, by rw [HS.out]; exact HI.out.2⟩
    · have htN : t = 4 := by omega
      subst htN
      have HE : Hid (bst = (Pl.bestT N B L 4).1 ∧ Rs.ints x = (Pl.bestT N B L 4).2 ∧ x < 1024) := ⟨HI.out.1, HI.out.2, hx⟩
      clear hx
      go_wp2
      go_ret2
      exact ⟨⟨x, HE.out.2.2, HE.out.2.1, by rw [← HE.out.1]; rfl⟩, BB.out⟩
end Go.Proofs.YtlkbdhejfmljlaaDoor
