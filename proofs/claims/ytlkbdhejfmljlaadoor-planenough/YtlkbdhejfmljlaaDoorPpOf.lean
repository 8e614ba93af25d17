/- Plans: the walk of a row's columns, and what is to be written of them, being told out of the arguments. -/
import Derived.Test.YtlkbdhejfmljlaaDoorPpRow
namespace Go.Proofs.YtlkbdhejfmljlaaDoor
open Go.RowKit
attribute [local go_sem] Oper.semAt_some

theorem row_yes (w : World) (N : Nat) (a : Option Addr) (cap : Nat) (L : List Int) (hn : L.length ≤ 1000000) (hR : RowI .i64 w a L.length (fun j => L.getD j 0)) (h : Pl.rolesB (N : Int) L = true) :
    Calls Tryd.prog 27 #[.int .i64 (N : Int), .slice a L.length cap] w fun e w' => (∃ d p l : Nat, Job N (fun _ => false) L d p 0 l ∧ e = .returned (.tuple #[.agg #[.int .u64 (d : Int), .int .u64 (p : Int), .int .u64 0, .int .u64 (l : Int)], .bool true])) ∧ Below w.heap.size w w' := by
  refine (rowOf_any w (N : Int) a cap L hn hR).mono ?_
  rintro e w' ⟨h1, hb⟩
  rcases h1 with ⟨_, M, d, p, l, e1, hj, rfl⟩ | ⟨h2, _⟩
  · obtain rfl : M = N := by omega
    exact ⟨⟨d, p, l, hj, rfl⟩, hb⟩
  · rw [h] at h2; cases h2
theorem row_no (w : World) (n : Int) (a : Option Addr) (cap : Nat) (L : List Int) (hn : L.length ≤ 1000000) (hR : RowI .i64 w a L.length (fun j => L.getD j 0)) (h : Pl.rolesB n L = false) :
    Calls Tryd.prog 27 #[.int .i64 n, .slice a L.length cap] w (Same15 w (.tuple #[.agg #[.int .u64 0, .int .u64 0, .int .u64 0, .int .u64 0], .bool false])) := by
  refine (rowOf_any w n a cap L hn hR).mono ?_
  rintro e w' ⟨h1, hb⟩
  rcases h1 with ⟨h2, _⟩ | ⟨_, rfl⟩
  · rw [h] at h2; cases h2
  · exact ⟨rfl, hb⟩
theorem Job.of {N d p l r : Nat} {W B : Nat → Bool} {L : List Int} (h : Job N W L d p 0 l) (hr : Rs.Is r (fun i => decide (i < N) && B i)) : Job N B L d p r l := ⟨h.n2, h.n8, h.hd, h.hp, hr, h.hl, h.top, h.cnt⟩
theorem Rs.write_no {B : Nat → Bool} {r t : Nat} (h : Rs.Is r (fun i => decide (i < t) && B i)) (hb : B t = false) : Rs.Is r (fun i => decide (i < t + 1) && B i) := by
  refine h.as fun i _ => ?_
  by_cases hi : i = t
  · rw [hi, hb]; simp
  · by_cases h1 : i < t
    · rw [decide_eq_true h1, decide_eq_true (show i < t + 1 by omega)]
    · rw [decide_eq_false h1, decide_eq_false (show ¬ i < t + 1 by omega)]
theorem Rs.write_yes {B : Nat → Bool} {r t : Nat} (ht : t < 10) (h : Rs.Is r (fun i => decide (i < t) && B i)) (hb : B t = true) : Rs.Is (r ||| 2 ^ t) (fun i => decide (i < t + 1) && B i) := by
  refine (h.or (Rs.Is.one ht)).as fun i _ => ?_
  by_cases hi : i = t
  · rw [hi, hb]; simp
  · rw [decide_eq_false hi, Bool.or_false]
    by_cases h1 : i < t
    · rw [decide_eq_true h1, decide_eq_true (show i < t + 1 by omega)]
    · rw [decide_eq_false h1, decide_eq_false (show ¬ i < t + 1 by omega)]

/-- .. where that may be -/
def JobYes (w : World) (N : Nat) (B : Nat → Bool) (L : List Int) (e : Ending) (w' : World) : Prop :=
  (∃ d p r l : Nat, Job N B L d p r l ∧ e = .returned (.tuple #[.agg #[.int .u64 (d : Int), .int .u64 (p : Int), .int .u64 (r : Int), .int .u64 (l : Int)], .bool true])) ∧ Below w.heap.size w w'

set_option maxRecDepth 100000 in
set_option maxHeartbeats 8000000 in
theorem job_yes (w : World) (N : Nat) (a0 : Option Addr) (k0 : Nat) (B : Nat → Bool) (hB : RowB w a0 N B) (a : Option Addr) (cap : Nat) (L : List Int) (hn : L.length ≤ 1000000) (hR : RowI .i64 w a L.length (fun j => L.getD j 0)) (h : Pl.rolesB (N : Int) L = true) :
    Calls Tryd.prog 18 #[.int .i64 (N : Int), .slice a0 N k0, .slice a L.length cap] w (JobYes w N B L) := by
  have hN := Pl.rolesB_n h
  have x6 := Box4.new w 47 (.int .u64 0) (.int .u64 0) (.int .u64 0) (.int .u64 0)
  have b6 := job_below w #[.int .u64 0, .int .u64 0, .int .u64 0, .int .u64 0] 47
  have hro := row_yes _ N a cap L hn (hR.below b6) h
  have X6 : Hid (Box4 (w.alloc (.cells #[.int .u64 0, .int .u64 0, .int .u64 0, .int .u64 0] 47)) w.heap.size (.int .u64 0) (.int .u64 0) (.int .u64 0) (.int .u64 0) ∧ Below w.heap.size w (w.alloc (.cells #[.int .u64 0, .int .u64 0, .int .u64 0, .int .u64 0] 47))) := ⟨x6, b6⟩
  have HRO : Hid (Calls Tryd.prog 27 #[.int .i64 (N : Int), .slice a L.length cap] (w.alloc (.cells #[.int .u64 0, .int .u64 0, .int .u64 0, .int .u64 0] 47)) fun e w' => (∃ d p l : Nat, Job N (fun _ => false) L d p 0 l ∧ e = .returned (.tuple #[.agg #[.int .u64 (d : Int), .int .u64 (p : Int), .int .u64 0, .int .u64 (l : Int)], .bool true])) ∧ Below (w.alloc (.cells #[.int .u64 0, .int .u64 0, .int .u64 0, .int .u64 0] 47)).heap.size (w.alloc (.cells #[.int .u64 0, .int .u64 0, .int .u64 0, .int .u64 0] 47)) w') := hro
  have HBW : Hid (RowB w a0 N B) := hB
  have HN : Hid (2 ≤ N ∧ N ≤ 8) := by exact ⟨by omega, by omega⟩
  clear x6 b6 hro hR hB h hN hn
  go_enter Tryd.func18, Tryd.ntmps18
  go_wp2_with fail
  refine HRO.out.mono ?_
  rintro e w1 ⟨⟨d, p, l, hj, rfl⟩, hb⟩
  have hs0 : w.heap.size < w1.heap.size := Nat.lt_of_lt_of_le X6.out.1.lt hb.size
  obtain ⟨bb, hbb⟩ : ∃ bb, bb = w1.heap.size := ⟨_, rfl⟩
  have hlt0 : w.heap.size < bb := by rw [hbb]; exact hs0
  have x8 := Box4.new w1 47 (.int .u64 (d : Int)) (.int .u64 (p : Int)) (.int .u64 ((0 : Nat) : Int)) (.int .u64 (l : Int))
  have b8 := job_below w1 #[.int .u64 (d : Int), .int .u64 (p : Int), .int .u64 ((0 : Nat) : Int), .int .u64 (l : Int)] 47
  have hz := (X6.out.1.kept hb).kept b8
  have hbw := below2 (below2 X6.out.2 hb) b8
  rw [← hbb] at x8
  have X8 : Hid (Box4 (w1.alloc (.cells #[.int .u64 (d : Int), .int .u64 (p : Int), .int .u64 ((0 : Nat) : Int), .int .u64 (l : Int)] 47)) bb (.int .u64 (d : Int)) (.int .u64 (p : Int)) (.int .u64 ((0 : Nat) : Int)) (.int .u64 (l : Int)) ∧ Box4 (w1.alloc (.cells #[.int .u64 (d : Int), .int .u64 (p : Int), .int .u64 ((0 : Nat) : Int), .int .u64 (l : Int)] 47)) w.heap.size (.int .u64 0) (.int .u64 0) (.int .u64 0) (.int .u64 0) ∧ Below w.heap.size w (w1.alloc (.cells #[.int .u64 (d : Int), .int .u64 (p : Int), .int .u64 ((0 : Nat) : Int), .int .u64 (l : Int)] 47))) := ⟨x8, hz, hbw⟩
  have HJ : Hid (Job N (fun _ => false) L d p 0 l) := hj
  clear x8 b8 hz hbw hj hb HRO X6
  go_wp2_with fail
  rw [← hbb]
  have HBB : Hid (bb = w1.heap.size) := hbb
  clear hbb
  go_loopg [29] N (fun gg s29 wr => ∃ t : Nat, t ≤ N ∧ gg = N - t ∧ s29 = .int .i64 (t : Int) ∧ ∃ r : Nat, (Box4 wr bb (.int .u64 (d : Int)) (.int .u64 (p : Int)) (.int .u64 (r : Int)) (.int .u64 (l : Int)) ∧ Box4 wr w.heap.size (.int .u64 0) (.int .u64 0) (.int .u64 0) (.int .u64 0) ∧ Below w.heap.size w wr) ∧ Rs.Is r (fun i => decide (i < t) && B i))
  case atStart => exact ⟨0, Nat.zero_le _, rfl, rfl, 0, X8.out, Rs.Is.zero.as fun _ _ => by simp⟩
  case round =>
    obtain ⟨t, ht, rfl, rfl, r, ⟨hX, hZ, hb⟩, hr⟩ := hrel
    have BB : Hid (Below w.heap.size w wr) := hb
    have XW : Hid (Box4 wr bb (.int .u64 (d : Int)) (.int .u64 (p : Int)) (.int .u64 (r : Int)) (.int .u64 (l : Int)) ∧ Box4 wr w.heap.size (.int .u64 0) (.int .u64 0) (.int .u64 0) (.int .u64 0)) := ⟨hX, hZ⟩
    have HR : Hid (Rs.Is r (fun i => decide (i < t) && B i)) := hr
    have hsz := hX.lt
    have hs1 := hZ.lt
    obtain ⟨k0, k1, k2, k3, f0, f1, f2, f3⟩ := hX
    clear X8 hr
    by_cases hlt : t < N
    · obtain ⟨b, off, rfl, hc⟩ := HBW.out.below hb t hlt
      obtain ⟨bi, hbi⟩ : ∃ bi, B t = bi := ⟨_, rfl⟩
      rw [hbi] at hc
      have ht10 : t < 10 := by have := HN.out; omega
      clear hZ hb
      cases bi with
      | false =>
        have HG : Hid (Rs.Is r (fun i => decide (i < t + 1) && B i)) := Rs.write_no HR.out hbi
        clear hbi
        go_wp2
        go_roundg (N - (t + 1))
        case measure => omega
        case rel => exact ⟨t + 1, by omega, rfl, by go_num, r, ⟨XW.out.1, XW.out.2, BB.out⟩, HG.out⟩
      | true =>
        have h1 := Rs.write_yes ht10 HR.out hbi
        have eo := u64_or_nat r (2 ^ t) (by have := HR.out.lt; omega) (by have := (Rs.Is.one ht10).lt; omega)
        have hqlt := (Rs.Is.one ht10).lt
        obtain ⟨q, hq⟩ : ∃ q, q = 2 ^ t := ⟨_, rfl⟩
        rw [← hq] at h1 eo hqlt
        have ew : IntKind.u64.wrap ((2 : Int) ^ t) = (q : Int) := by
          rw [show ((2 : Int) ^ t) = (q : Int) by rw [hq, Int.natCast_pow]; rfl, IntKind.wrap_u64]
          omega
        obtain ⟨z, hz⟩ : ∃ z, z = r ||| q := ⟨_, rfl⟩
        rw [← hz] at h1 eo
        have HG : Hid (Rs.Is z (fun i => decide (i < t + 1) && B i)) := h1
        clear hbi h1 hq hz hqlt
        go_wp2_with fail
        go_region
        go_wp2
        go_roundg (N - (t + 1))
        case measure => omega
        case rel => exact ⟨t + 1, by omega, rfl, by go_num, z, ⟨(XW.out.1.put2 _).drew, (XW.out.2.far (by show bb ≠ w.heap.size; omega) _).drew, (stored1 BB.out BB.out.size (Nat.le_of_lt hlt0) _).drew⟩, HG.out⟩
    · have hx : ¬ (t : Int) < (N : Int) := by omega
      have htN : t = N := by omega
      have HJ2 : Hid (Job N B L d p r l) := HJ.out.of (by rw [← htN]; exact HR.out)
      obtain ⟨z0, z1, z2, z3, y0, y1, y2, y3⟩ := hZ
      clear hb htN
      go_wp2
      refine bodyPost_ret (ret_cell_tmp rfl _ _ ⟨w.heap.size, 0, none⟩ (.agg #[.int .u64 (d : Int), .int .u64 (p : Int), .int .u64 (r : Int), .int .u64 (l : Int)]) rfl (by go_simp)) rfl ?_
      exact ⟨⟨d, p, r, l, HJ2.out, rfl⟩, stored4 BB.out BB.out.size (Nat.le_refl _) _ _ _ _⟩

set_option maxRecDepth 100000 in
set_option maxHeartbeats 4000000 in
theorem job_no (w : World) (n : Int) (a0 : Option Addr) (m0 k0 : Nat) (a : Option Addr) (cap : Nat) (L : List Int) (hn : L.length ≤ 1000000) (hR : RowI .i64 w a L.length (fun j => L.getD j 0)) (h : Pl.argsOk n m0 L = false) :
    Calls Tryd.prog 18 #[.int .i64 n, .slice a0 m0 k0, .slice a L.length cap] w (Same15 w (.tuple #[.agg #[.int .u64 0, .int .u64 0, .int .u64 0, .int .u64 0], .bool false])) := by
  have x6 := Box4.new w 47 (.int .u64 0) (.int .u64 0) (.int .u64 0) (.int .u64 0)
  have b6 := job_below w #[.int .u64 0, .int .u64 0, .int .u64 0, .int .u64 0] 47
  have hR6 := hR.below b6
  have X6 : Hid (Box4 (w.alloc (.cells #[.int .u64 0, .int .u64 0, .int .u64 0, .int .u64 0] 47)) w.heap.size (.int .u64 0) (.int .u64 0) (.int .u64 0) (.int .u64 0) ∧ Below w.heap.size w (w.alloc (.cells #[.int .u64 0, .int .u64 0, .int .u64 0, .int .u64 0] 47))) := ⟨x6, b6⟩
  cases hro : Pl.rolesB n L with
  | false =>
    have HRO : Hid (Calls Tryd.prog 27 #[.int .i64 n, .slice a L.length cap] (w.alloc (.cells #[.int .u64 0, .int .u64 0, .int .u64 0, .int .u64 0] 47)) (Same15 (w.alloc (.cells #[.int .u64 0, .int .u64 0, .int .u64 0, .int .u64 0] 47)) (.tuple #[.agg #[.int .u64 0, .int .u64 0, .int .u64 0, .int .u64 0], .bool false]))) := row_no _ n a cap L hn hR6 hro
    clear x6 b6 hR hR6 h hro hn
    go_enter Tryd.func18, Tryd.ntmps18
    go_wp2_with fail
    refine HRO.out.mono ?_
    rintro e w1 ⟨rfl, hb⟩
    have B1 : Hid (Below w.heap.size w (w1.alloc (.cells #[.int .u64 0, .int .u64 0, .int .u64 0, .int .u64 0] 47))) := below2 (below2 X6.out.2 hb) (job_below w1 _ _)
    obtain ⟨z0, z1, z2, z3, y0, y1, y2, y3⟩ := (X6.out.1.kept hb).kept (job_below w1 #[.int .u64 0, .int .u64 0, .int .u64 0, .int .u64 0] 47)
    clear hb HRO X6
    go_wp2
    refine bodyPost_ret (ret_cell_tmp rfl _ _ ⟨w.heap.size, 0, none⟩ (.agg #[.int .u64 0, .int .u64 0, .int .u64 0, .int .u64 0]) rfl (by go_simp)) rfl ?_
    exact ⟨rfl, stored4 B1.out B1.out.size (Nat.le_refl _) _ _ _ _⟩
  | true =>
    obtain ⟨q2, q8⟩ := Pl.rolesB_n hro
    obtain ⟨N, rfl⟩ : ∃ N : Nat, n = (N : Int) := ⟨n.toNat, by omega⟩
    have hmn : ¬ m0 = N := fun e => by
      unfold Pl.argsOk at h
      rw [hro, e] at h
      simp at h
    have t1 : ((m0 : Int) == (N : Int)) = false := by rw [beq_eq_false_iff_ne]; omega
    have HRO : Hid (Calls Tryd.prog 27 #[.int .i64 (N : Int), .slice a L.length cap] (w.alloc (.cells #[.int .u64 0, .int .u64 0, .int .u64 0, .int .u64 0] 47)) fun e w' => (∃ d p l : Nat, Job N (fun _ => false) L d p 0 l ∧ e = .returned (.tuple #[.agg #[.int .u64 (d : Int), .int .u64 (p : Int), .int .u64 0, .int .u64 (l : Int)], .bool true])) ∧ Below (w.alloc (.cells #[.int .u64 0, .int .u64 0, .int .u64 0, .int .u64 0] 47)).heap.size (w.alloc (.cells #[.int .u64 0, .int .u64 0, .int .u64 0, .int .u64 0] 47)) w') := row_yes _ N a cap L hn hR6 hro
    clear x6 b6 hR hR6 h hro hn hmn
    go_enter Tryd.func18, Tryd.ntmps18
    go_wp2_with fail
    refine HRO.out.mono ?_
    rintro e w1 ⟨⟨d, p, l, _, rfl⟩, hb⟩
    have B1 : Hid (Below w.heap.size w (w1.alloc (.cells #[.int .u64 (d : Int), .int .u64 (p : Int), .int .u64 0, .int .u64 (l : Int)] 47))) := below2 (below2 X6.out.2 hb) (job_below w1 _ _)
    obtain ⟨z0, z1, z2, z3, y0, y1, y2, y3⟩ := (X6.out.1.kept hb).kept (job_below w1 #[.int .u64 (d : Int), .int .u64 (p : Int), .int .u64 0, .int .u64 (l : Int)] 47)
    clear hb HRO X6
    go_wp2
    refine bodyPost_ret (ret_cell_tmp rfl _ _ ⟨w.heap.size, 0, none⟩ (.agg #[.int .u64 0, .int .u64 0, .int .u64 0, .int .u64 0]) rfl (by go_simp)) rfl ?_
    exact ⟨rfl, stored4 B1.out B1.out.size (Nat.le_refl _) _ _ _ _⟩
end Go.Proofs.YtlkbdhejfmljlaaDoor
