/- The document's own plans: the walks of Cost and Read. -/
import Derived.Test.YtlkbdhejfmljlaaDoorRef15R1
import Derived.Test.YtlkbdhejfmljlaaDoorRef15R2
import Derived.Test.YtlkbdhejfmljlaaDoorRef15R3
import Derived.Test.YtlkbdhejfmljlaaDoorRef15R4
import Derived.Test.YtlkbdhejfmljlaaDoorRef15Ro
namespace Go.Proofs.YtlkbdhejfmljlaaDoor
open Go.RowKit
attribute [local go_sem] Oper.semAt_some

theorem rreads15_any (w : World) (N : Nat) (h2 : 2 ≤ N) (h8 : N ≤ 8) (a0 : Option Addr) (k0 : Nat) (B : Nat → Bool) (hB : RowB w a0 N B) (a : Option Addr) (cap : Nat) (L : List Int) (hL : L.length ≤ 1000000) (hR : RowI .i64 w a L.length (fun j => L.getD j 0)) (way : Int) :
    Calls Tryd.prog 24 #[.int .i64 (N : Int), .slice a0 N k0, .slice a L.length cap, .int .i64 way] w (ReadsAns w N B L way) := by
  by_cases h : 1 ≤ way ∧ way ≤ 4
  · have : way = 1 ∨ way = 2 ∨ way = 3 ∨ way = 4 := by omega
    rcases this with rfl | rfl | rfl | rfl
    · exact rreads15_1 w N h2 h8 a0 k0 B hB a cap L hL hR
    · exact rreads15_2 w N h2 h8 a0 k0 B hB a cap L hL hR
    · exact rreads15_3 w N h2 h8 a0 k0 B hB a cap L hL hR
    · exact rreads15_4 w N h2 h8 a0 k0 B hB a cap L hL hR
  · exact rreads15_o w N h2 h8 a0 k0 B hB a cap L hL hR way h

set_option maxRecDepth 100000 in
set_option maxHeartbeats 4000000 in
theorem rCost15_any (w : World) (n : Int) (a0 : Option Addr) (m0 k0 : Nat) (B : Nat → Bool) (hm : m0 ≤ 1000000) (hB : RowB w a0 m0 B) (a : Option Addr) (cap : Nat) (L : List Int) (hcap : L.length ≤ cap) (hL : L.length ≤ 1000000) (hR : RowI .i64 w a L.length (fun j => L.getD j 0)) (way : Int) :
    Calls Tryd.prog 12 #[.int .i64 n, .slice a0 m0 k0, .slice a L.length cap, .int .i64 way] w (Same15 w (.tuple #[.int .i64 (Pl.costN n m0 B L way : Nat), .bool (Pl.costB n m0 B L way)])) := by
  have hro := rroles15_any w n a cap L hcap hL hR
  obtain ⟨ok, hok⟩ : ∃ ok, ok = Pl.rolesB n L := ⟨_, rfl⟩
  rw [← hok] at hro
  have hno : Pl.costOk n m0 L = false → Pl.costN n m0 B L way = 0 ∧ Pl.costB n m0 B L way = false := fun h => by unfold Pl.costN Pl.costB; rw [h]; exact ⟨rfl, rfl⟩
  cases ok with
  | false =>
    have E := hno (by unfold Pl.costOk Pl.argsOk; rw [← hok]; rfl)
    rw [E.1, E.2]
    have HRO : Hid (Calls Tryd.prog 22 #[.int .i64 n, .slice a L.length cap] w (Same15 w (.bool false))) := hro
    clear hro hok hno E hB hR
    go_enter Tryd.func12, Tryd.ntmps12
    go_wp2_with fail
    refine HRO.out.mono ?_
    rintro e w1 ⟨rfl, hb⟩
    go_wp2
    go_ret2
    exact ⟨rfl, hb⟩
  | true =>
    obtain ⟨q2, q8⟩ := Pl.rolesB_n hok.symm
    obtain ⟨N, rfl⟩ : ∃ N : Nat, n = (N : Int) := ⟨n.toNat, by omega⟩
    have HRO : Hid (Calls Tryd.prog 22 #[.int .i64 (N : Int), .slice a L.length cap] w (Same15 w (.bool true))) := hro
    by_cases hmn : m0 = N
    · subst hmn
      by_cases hl2 : L.length ≤ 2
      · have E : Pl.costOk (m0 : Int) m0 L = true := by unfold Pl.costOk Pl.argsOk; rw [← hok, decide_eq_true hl2]; simp
        have E1 : Hid (Pl.costN (m0 : Int) m0 B L way = (Pl.ansL m0 B L way).length ∧ Pl.costB (m0 : Int) m0 B L way = Pl.canB m0 B L way) := by
          refine ⟨?_, ?_⟩
          · unfold Pl.costN; rw [if_pos E]; rfl
          · unfold Pl.costB; rw [E]; rfl
        have HRD : Hid (∀ W, Below w.heap.size w W → Calls Tryd.prog 24 #[.int .i64 (m0 : Int), .slice a0 m0 k0, .slice a L.length cap, .int .i64 way] W (ReadsAns W m0 B L way)) := fun W hW => rreads15_any W m0 (by omega) (by omega) a0 k0 B (hB.below hW) a cap L hL (hR.below hW) way
        obtain ⟨m, hmm⟩ : ∃ m, m = L.length := ⟨_, rfl⟩
        rw [← hmm] at HRD HRO hl2 ⊢
        have t1 : decide ((2 : Int) < (m : Int)) = false := decide_eq_false (by omega)
        have t2 : decide (2 < m) = false := decide_eq_false (by omega)
        clear hro hok hno hB hR E hmm hl2
        go_enter Tryd.func12, Tryd.ntmps12
        go_wp2_with fail
        refine HRO.out.mono ?_
        rintro e w1 ⟨rfl, hb⟩
        have HB1 : Hid (Below w.heap.size w w1) := hb
        clear hb HRO
        go_wp2_with fail
        refine (HRD.out w1 HB1.out).mono ?_
        rintro e w2 ⟨v, rfl, hown, hb2⟩
        obtain ⟨ra, rc, rfl, _, _⟩ := RowI.of_owns (k := .i64) hown
        have HB2 : Hid (Below w.heap.size w w2) := HB1.out.trans (hb2.mono HB1.out.size)
        obtain ⟨ln, hln⟩ : ∃ ln, ln = (Pl.ansL m0 B L way).length := ⟨_, rfl⟩
        obtain ⟨cb, hcb⟩ : ∃ cb, cb = Pl.canB m0 B L way := ⟨_, rfl⟩
        have H1 : Hid (Pl.costN (m0 : Int) m0 B L way = ln ∧ Pl.costB (m0 : Int) m0 B L way = cb) := ⟨E1.out.1.trans hln.symm, E1.out.2.trans hcb.symm⟩
        rw [← hln, ← hcb]
        clear hown hb2 HRD hln hcb E1
        go_wp2
        go_ret2
        rw [H1.out.1, H1.out.2]
        exact ⟨rfl, HB2.out⟩
      · have E := hno (by unfold Pl.costOk; rw [decide_eq_false hl2]; simp)
        rw [E.1, E.2]
        obtain ⟨m, hmm⟩ : ∃ m, m = L.length := ⟨_, rfl⟩
        rw [← hmm] at HRO hl2 ⊢
        have t1 : decide ((2 : Int) < (m : Int)) = true := decide_eq_true (by omega)
        have t2 : decide (2 < m) = true := decide_eq_true (by omega)
        clear hro hok hno hB hR E hmm hl2
        go_enter Tryd.func12, Tryd.ntmps12
        go_wp2_with fail
        refine HRO.out.mono ?_
        rintro e w1 ⟨rfl, hb⟩
        go_wp2
        go_ret2
        exact ⟨rfl, hb⟩
    · have E := hno (by unfold Pl.costOk Pl.argsOk; rw [decide_eq_false (show ¬ (m0 : Int) = (N : Int) by omega)]; simp)
      rw [E.1, E.2]
      have t1 : ((m0 : Int) == (N : Int)) = false := by rw [beq_eq_false_iff_ne]; omega
      clear hro hok hno hB hR E
      go_enter Tryd.func12, Tryd.ntmps12
      go_wp2_with fail
      refine HRO.out.mono ?_
      rintro e w1 ⟨rfl, hb⟩
      go_wp2
      go_ret2
      exact ⟨rfl, hb⟩
end Go.Proofs.YtlkbdhejfmljlaaDoor
