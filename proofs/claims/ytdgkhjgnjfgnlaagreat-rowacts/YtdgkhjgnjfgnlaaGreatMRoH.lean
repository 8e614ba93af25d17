import Derived.Test.YtdgkhjgnjfgnlaaGreatMLayC
import Derived.Test.YtdgkhjgnjfgnlaaGreatDrvMath
import Derived.Test.YtdgkhjgnjfgnlaaGreatMKitA
import Derived.Test.YtdgkhjgnjfgnlaaGreatMRef7
import Derived.Deep.RegionHeld3
import Derived.Deep.LoopGhost
namespace Go.Proofs.YtdgkhjgnjfgnlaaGreat
namespace Ro
abbrev Col := Option (Nat × Dr)
def ptr : Col → Value
 | none => .pointer none
 | some x => .pointer (some ⟨x.1, 0, none⟩)
def fitB (need : Nat) : Col → Bool
 | none => true
 | some x => decide (need ≤ x.2.n)
section
variable (c k r dn bn : Nat) (C : Nat → Col) (bf : Nat → Int)
def mayB : Bool := decide (dn = c) && (decide (bn = c) && (List.range dn).all fun i => fitB (4 + r * k) (C i))
def inB (row off : Int) : Bool := decide (0 ≤ row) && (decide (row < (r : Int)) && (decide (0 ≤ off) && decide (off < (k : Int))))
def chk (row off : Int) : Nat := if mayB c k r dn bn C then (if inB k r row off then 0 else 70) else 1
def colN (row role : Nat) : Nat := (role + (c - row % c) + 1) % c
def missB (row : Int) (i : Nat) : Bool := match C i with
 | none => true
 | some x => x.2.dead || decide (bf i ≤ row)
end
theorem role_col {c k r row j : Nat} (h : Lay.ok (c : Int) (k : Int) (r : Int)) (hr : row < r) (hj : j < c) (role : Nat) (hro : role < c) : (Lay.roleI (c : Int) (k : Int) (r : Int) (row : Int) (j : Int) = (role : Int)) ↔ j = colN c row role := by
 have e : Lay.roleI (c : Int) (k : Int) (r : Int) (row : Int) (j : Int) = ((j : Int) - ((c : Int) - 1 - (row : Int) % (c : Int) + 1) % (c : Int) - 1) % (c : Int) := if_pos ⟨⟨h, by omega, by omega⟩, by omega, by omega⟩
 rw [e]
 unfold colN
 obtain ⟨⟨c1, c2⟩, _, _⟩ := h
 have hc : c = 4 ∨ c = 5 ∨ c = 6 ∨ c = 7 ∨ c = 8 ∨ c = 9 ∨ c = 10 := by omega
 rcases hc with rfl | rfl | rfl | rfl | rfl | rfl | rfl <;> omega
theorem colN_lt {c row role : Nat} (h : 0 < c) : colN c row role < c := Nat.mod_lt _ h
end Ro
end Go.Proofs.YtdgkhjgnjfgnlaaGreat
namespace Go.Proofs.YtdgkhjgnjfgnlaaGreat
open Go.RowKit
attribute [local go_sem] Oper.semAt_some
def At5 (w : World) (b : Nat) (c k r : Nat) (vD vB : Value) (W : World) : Prop :=
 W.cell? ⟨b, 0, none⟩ = some (.int .i64 (c : Int)) ∧ W.cell? ⟨b, 1, none⟩ = some (.int .i64 (k : Int)) ∧ W.cell? ⟨b, 2, none⟩ = some (.int .i64 (r : Int)) ∧ W.cell? ⟨b, 3, none⟩ = some vD ∧ W.cell? ⟨b, 4, none⟩ = some vB ∧ Below w.heap.size w W
theorem At5.new (w : World) (c k r : Nat) (vD vB : Value) (t : TypeId) : At5 w w.heap.size c k r vD vB (w.alloc (.cells #[.int .i64 (c : Int), .int .i64 (k : Int), .int .i64 (r : Int), vD, vB] t)) :=
 ⟨World.cell?_alloc_mark w _ t (0, 0) 0, World.cell?_alloc_mark w _ t (0, 0) 1, World.cell?_alloc_mark w _ t (0, 0) 2, World.cell?_alloc_mark w _ t (0, 0) 3, World.cell?_alloc_mark w _ t (0, 0) 4, (Below.refl _ _).alloc (Nat.le_refl _) _⟩
theorem At5.kept {w W W' : World} {b c k r : Nat} {vD vB : Value} (h : At5 w b c k r vD vB W) (hb : Below W.heap.size W W') : At5 w b c k r vD vB W' := by
 obtain ⟨h0, h1, h2, h3, h4, h5⟩ := h
 have hl := World.block_lt_of_cell? W _ h0
 exact ⟨(hb.cell (p := ⟨b, 0, none⟩) hl).trans h0, (hb.cell (p := ⟨b, 1, none⟩) hl).trans h1, (hb.cell (p := ⟨b, 2, none⟩) hl).trans h2, (hb.cell (p := ⟨b, 3, none⟩) hl).trans h3, (hb.cell (p := ⟨b, 4, none⟩) hl).trans h4, h5.trans (hb.mono h5.size)⟩
section
variable {c k r : Nat} {da ba : Option Addr} {dn dcap bn bcap : Nat} {C : Nat → Ro.Col} {bf : Nat → Int}
set_option maxRecDepth 100000 in
set_option maxHeartbeats 4000000 in
theorem rRole16 (hok : Lay.ok (c : Int) (k : Int) (r : Int)) (row role : Nat) (hr : row < r) (hro : role < c) (w : World) :
  Calls Tryz.prog 43 #[.agg #[.int .i64 (c : Int), .int .i64 (k : Int), .int .i64 (r : Int), .slice da dn dcap, .slice ba bn bcap], .int .i64 (row : Int), .int .i64 (role : Int)] w fun e w' => e = .returned (.int .i64 (Ro.colN c row role : Nat)) ∧ Below w.heap.size w w' := by
 have hc0 : 0 < c := by have := hok.1; omega
 have hlt := Ro.colN_lt (row := row) (role := role) hc0
 have hR : ∀ j, j < c → ((Lay.roleI (c : Int) (k : Int) (r : Int) (row : Int) (j : Int) == (role : Int)) = decide (j = Ro.colN c row role)) := fun j hj => by
  by_cases h : j = Ro.colN c row role
  ·rw [decide_eq_true h, (Ro.role_col hok hr hj role hro).2 h]; simp
  ·rw [decide_eq_false h, beq_eq_false_iff_ne]; exact fun e => h ((Ro.role_col hok hr hj role hro).1 e)
 have HR : Hid (∀ j, j < c → ((Lay.roleI (c : Int) (k : Int) (r : Int) (row : Int) (j : Int) == (role : Int)) = decide (j = Ro.colN c row role))) := hR
 have HCR : Hid (∀ W j, Calls Tryz.prog 77 #[.agg #[.int .i64 (c : Int), .int .i64 (k : Int), .int .i64 (r : Int)], .int .i64 (row : Int), .int .i64 j] W fun e w' => e = .returned (.int .i64 (Lay.roleI (c : Int) (k : Int) (r : Int) (row : Int) j)) ∧ Below W.heap.size W w') := fun W j => rRole_any (c : Int) (k : Int) (r : Int) (row : Int) j W
 obtain ⟨z, hz⟩ : ∃ z, Ro.colN c row role = z := ⟨_, rfl⟩
 rw [hz] at hlt HR ⊢
 have X0 : Hid (At5 w w.heap.size c k r (.slice da dn dcap) (.slice ba bn bcap) (w.alloc (.cells #[.int .i64 (c : Int), .int .i64 (k : Int), .int .i64 (r : Int), .slice da dn dcap, .slice ba bn bcap] 33))) := At5.new _ _ _ _ _ _ _
 have hcle : c ≤ 10 := by have := hok.1; omega
 have HZ : Hid (z < c) := hlt
 clear hR hok hr hro hz hc0 hlt
 go_enter Tryz.func43, Tryz.ntmps43
 go_wp2_with fail
 go_loopg [7] (c - 0) (fun gg s7 wr => ∃ t : Nat, t ≤ z ∧ gg = c - t ∧ s7 = .int .i64 (t : Int) ∧ At5 w w.heap.size c k r (.slice da dn dcap) (.slice ba bn bcap) wr)
 case atStart => exact ⟨0, Nat.zero_le _, rfl, rfl, X0.out⟩
 case round =>
  obtain ⟨t, ht, rfl, rfl, hA⟩ := hrel
  have HA : Hid (At5 w w.heap.size c k r (.slice da dn dcap) (.slice ba bn bcap) wr) := hA
  obtain ⟨k0, k1, k2, k3, k4, hb⟩ := hA
  have hlt2 : t < c := by have := HZ.out; omega
  have hi : (t : Int) < (c : Int) := by omega
  have hcmp := HR.out t hlt2
  obtain ⟨x, hx⟩ : ∃ x, Lay.roleI (c : Int) (k : Int) (r : Int) (row : Int) (t : Int) = x := ⟨_, rfl⟩
  have HCX : Hid (∀ W, Calls Tryz.prog 77 #[.agg #[.int .i64 (c : Int), .int .i64 (k : Int), .int .i64 (r : Int)], .int .i64 (row : Int), .int .i64 (t : Int)] W fun e w' => e = .returned (.int .i64 x) ∧ Below W.heap.size W w') := fun W => by
   have h := HCR.out W (t : Int)
   rwa [hx] at h
  rw [hx] at hcmp
  clear hx X0 hb
  by_cases he : t = z
  ·have hd : (x == (role : Int)) = true := by rw [hcmp, decide_eq_true he]
   have HE : Hid (t = z) := he
   clear hcmp he ht
   go_wp2_with (go_at_call 77; refine (HCX.out _).mono ?_; rintro e w2 ⟨rfl, hb2⟩; have B2 : Hid (Below wr.heap.size wr w2) := hb2; clear hb2)
   go_ret
   exact ⟨ret_int (by rw [HE.out]), (HA.out.kept B2.out).2.2.2.2.2⟩
  ·have hd : (x == (role : Int)) = false := by rw [hcmp, decide_eq_false he]
   clear hcmp
   go_wp2_with (go_at_call 77; refine (HCX.out _).mono ?_; rintro e w2 ⟨rfl, hb2⟩; have B2 : Hid (Below wr.heap.size wr w2) := hb2; clear hb2)
   go_roundg (c - (t + 1))
   case measure => omega
   case rel => exact ⟨t + 1, by omega, rfl, by go_num, HA.out.kept B2.out⟩
end
end Go.Proofs.YtdgkhjgnjfgnlaaGreat
