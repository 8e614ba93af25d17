import Derived.Test.YtdgkhjgnjfgnlaaGreatMRoH
import Derived.Test.YtdgkhjgnjfgnlaaGreatRefPw
import Derived.BigQuiet
namespace Go.Proofs.YtdgkhjgnjfgnlaaGreat
open Go.RowKit
attribute [local go_sem] Oper.semAt_some
def RowP (w : World) (a : Option Addr) (n : Nat) (C : Nat → Ro.Col) : Prop := ∀ j, j < n → ∃ b off, a = some ⟨b, off, none⟩ ∧ w.cell? ⟨b, off + j, none⟩ = some (Ro.ptr (C j))
theorem RowP.below {w w' : World} {a : Option Addr} {n : Nat} {C : Nat → Ro.Col} (h : RowP w a n C) (hb : Below w.heap.size w w') : RowP w' a n C := fun j hj => by
 obtain ⟨b, off, e, hc⟩ := h j hj
 exact ⟨b, off, e, (hb.cell (p := ⟨b, off + j, none⟩) (World.block_lt_of_cell? w _ hc)).trans hc⟩
structure RefSet (w : World) (da : Option Addr) (dn : Nat) (ba : Option Addr) (bn : Nat) (C : Nat → Ro.Col) (bf : Nat → Int) : Prop where
 row : RowP w da dn C
 built : RowI .i64 w ba bn bf
 drv : ∀ i p D, i < dn → C i = some (p, D) → ∃ G, RefAt w p D G
theorem RefSet.below {w w' : World} {da : Option Addr} {dn : Nat} {ba : Option Addr} {bn : Nat} {C : Nat → Ro.Col} {bf : Nat → Int} (h : RefSet w da dn ba bn C bf) (hb : Below w.heap.size w w') : RefSet w' da dn ba bn C bf :=
 ⟨h.row.below hb, h.built.below hb, fun i p D hi e => by obtain ⟨G, hG⟩ := h.drv i p D hi e; exact ⟨G, hG.below hb⟩⟩
theorem RefAt.seen {w : World} {p : Nat} {D : Dr} {G : Nat → Prop} (h : RefAt w p D G) : (∃ g cap, w.cell? ⟨p, 0, none⟩ = some (.slice (some ⟨g, 0, none⟩) D.n cap) ∧ D.n ≤ cap ∧ cap ≤ maxLen) ∧ w.cell? ⟨p, 3, none⟩ = some (.bool D.dead) ∧ 1 ≤ D.n ∧ D.n ≤ 4096 := by
 obtain ⟨vS, vW, vP, hd, h, _⟩ := h
 have hlen : (D.safe.map txt).length = D.safe.length := List.length_map ..
 obtain ⟨c0, _, _, c3, _, _, _⟩ := h.at_.cell
 obtain ⟨g, cap, e, _, _, hcap, hmax, _, _⟩ := ownsRow_at h.at_.safes (j := 0) (by rw [hlen]; exact h.ok.pos)
 rw [e, hlen] at c0
 rw [hlen] at hcap
 exact ⟨⟨g, cap, c0, hcap, hmax⟩, c3, h.ok.pos, h.ok.le⟩
section
variable {c k r : Nat} {da ba : Option Addr} {dn dcap bn bcap : Nat} {C : Nat → Ro.Col} {bf : Nat → Int}
set_option maxRecDepth 100000 in
set_option maxHeartbeats 4000000 in
theorem rMissing16 (row : Int) (i : Nat) (hi : i < dn) (hi2 : i < bn) (w : World) (h : RefSet w da dn ba bn C bf) :
  Calls Tryz.prog 44 #[.agg #[.int .i64 (c : Int), .int .i64 (k : Int), .int .i64 (r : Int), .slice da dn dcap, .slice ba bn bcap], .int .i64 row, .int .i64 (i : Int)] w fun e w' => e = .returned (.bool (Ro.missB C bf row i)) ∧ Below w.heap.size w w' := by
 obtain ⟨b1, o1, rfl, hp⟩ := h.row i hi
 obtain ⟨b2, o2, rfl, hq⟩ := h.built i hi2
 have X0 : Hid (Below w.heap.size w (w.alloc (.cells #[.int .i64 (c : Int), .int .i64 (k : Int), .int .i64 (r : Int), .slice (some ⟨b1, o1, none⟩) dn dcap, .slice (some ⟨b2, o2, none⟩) bn bcap] 33))) := (Below.refl _ _).alloc (Nat.le_refl _) _
 have l1 := World.block_lt_of_cell? w _ hp
 have l2 := World.block_lt_of_cell? w _ hq
 have i1 : (i : Int) < (dn : Int) := by omega
 have i2 : (i : Int) < (bn : Int) := by omega
 have E : Hid (∀ x, Ro.missB C bf row i = x → x = Ro.missB C bf row i) := fun _ h => h.symm
 unfold Ro.missB at E ⊢
 cases hC : C i with
 | none =>
  rw [hC] at hp
  simp only [Ro.ptr] at hp
  clear h hC E
  go_enter Tryz.func44, Tryz.ntmps44
  go_wp2
  go_ret
  exact ⟨rfl, X0.out⟩
 | some x =>
  obtain ⟨p, D⟩ := x
  rw [hC] at hp
  simp only [Ro.ptr] at hp
  obtain ⟨G, hG⟩ := h.drv i p D hi hC
  obtain ⟨_, hd, _⟩ := hG.seen
  have l3 := World.block_lt_of_cell? w _ hd
  obtain ⟨y, hy⟩ : ∃ y, bf i = y := ⟨_, rfl⟩
  rw [hy] at hq ⊢
  dsimp only
  obtain ⟨dd, hdd⟩ : ∃ dd, D.dead = dd := ⟨_, rfl⟩
  rw [hdd] at hd ⊢
  obtain ⟨q, hq2⟩ : ∃ q, decide (y ≤ row) = q := ⟨_, rfl⟩
  have HQ : Hid (decide (y ≤ row) = q) := hq2
  rw [hq2]
  clear h hC E hG hy hdd
  cases dd with
  | true =>
   go_enter Tryz.func44, Tryz.ntmps44
   go_wp2
   go_ret
   exact ⟨rfl, X0.out⟩
  | false =>
   go_enter Tryz.func44, Tryz.ntmps44
   go_wp2
   go_ret
   exact ⟨rfl, X0.out⟩
end
end Go.Proofs.YtdgkhjgnjfgnlaaGreat
namespace Go.Proofs.YtdgkhjgnjfgnlaaGreat
open Go.RowKit
attribute [local go_sem] Oper.semAt_some
theorem keep_may {w W W' : World} {b b1 o1 p : Nat} {x0 x1 x2 x3 x4 x5 x6 : Value} (hb : Below W.heap.size W W')
  (h : W.cell? ⟨b, 0, none⟩ = some x0 ∧ W.cell? ⟨b, 1, none⟩ = some x1 ∧ W.cell? ⟨b, 2, none⟩ = some x2 ∧ W.cell? ⟨b, 3, none⟩ = some x3 ∧ W.cell? ⟨b, 4, none⟩ = some x4 ∧ W.cell? ⟨b1, o1, none⟩ = some x5 ∧ W.cell? ⟨p, 0, none⟩ = some x6 ∧ Below w.heap.size w W) :
  W'.cell? ⟨b, 0, none⟩ = some x0 ∧ W'.cell? ⟨b, 1, none⟩ = some x1 ∧ W'.cell? ⟨b, 2, none⟩ = some x2 ∧ W'.cell? ⟨b, 3, none⟩ = some x3 ∧ W'.cell? ⟨b, 4, none⟩ = some x4 ∧ W'.cell? ⟨b1, o1, none⟩ = some x5 ∧ W'.cell? ⟨p, 0, none⟩ = some x6 ∧ Below w.heap.size w W' := by
 obtain ⟨h0, h1, h2, h3, h4, h5, h6, h7⟩ := h
 have hl := World.block_lt_of_cell? W _ h0
 exact ⟨(hb.cell (p := ⟨b, 0, none⟩) hl).trans h0, (hb.cell (p := ⟨b, 1, none⟩) hl).trans h1, (hb.cell (p := ⟨b, 2, none⟩) hl).trans h2, (hb.cell (p := ⟨b, 3, none⟩) hl).trans h3, (hb.cell (p := ⟨b, 4, none⟩) hl).trans h4,
  (hb.cell (p := ⟨b1, o1, none⟩) (World.block_lt_of_cell? W _ h5)).trans h5, (hb.cell (p := ⟨p, 0, none⟩) (World.block_lt_of_cell? W _ h6)).trans h6, h7.trans (hb.mono h7.size)⟩
theorem may_five {w W : World} {b b1 o1 p : Nat} {c k r : Nat} {vD vB x5 x6 : Value} (h : W.cell? ⟨b, 0, none⟩ = some (.int .i64 (c : Int)) ∧ W.cell? ⟨b, 1, none⟩ = some (.int .i64 (k : Int)) ∧ W.cell? ⟨b, 2, none⟩ = some (.int .i64 (r : Int)) ∧ W.cell? ⟨b, 3, none⟩ = some vD ∧ W.cell? ⟨b, 4, none⟩ = some vB ∧ W.cell? ⟨b1, o1, none⟩ = some x5 ∧ W.cell? ⟨p, 0, none⟩ = some x6 ∧ Below w.heap.size w W) :
  At5 w b c k r vD vB W := ⟨h.1, h.2.1, h.2.2.1, h.2.2.2.1, h.2.2.2.2.1, h.2.2.2.2.2.2.2⟩
theorem At5.drewN {w W : World} {b c k r : Nat} {vD vB : Value} (h : At5 w b c k r vD vB W) (q : Nat) : At5 w b c k r vD vB (W.drewN q) := ⟨h.1, h.2.1, h.2.2.1, h.2.2.2.1, h.2.2.2.2.1, below_drewN h.2.2.2.2.2 q⟩
section
variable {c k r : Nat} {da ba : Option Addr} {dn dcap bn bcap : Nat} {C : Nat → Ro.Col} {bf : Nat → Int}
set_option maxRecDepth 100000 in
set_option maxHeartbeats 8000000 in
theorem rMay16 (hok : Lay.ok (c : Int) (k : Int) (r : Int)) (hdn : dn ≤ 1000000) (w : World) (h : RefSet w da dn ba bn C bf) :
    Calls Tryz.prog 23 #[.agg #[.int .i64 (c : Int), .int .i64 (k : Int), .int .i64 (r : Int), .slice da dn dcap, .slice ba bn bcap]] w fun e w' => e = .returned (.bool (Ro.mayB c k r dn bn C)) ∧ Below w.heap.size w w' := by
  have hch : ∀ W, Calls Tryz.prog 59 #[.agg #[.int .i64 (c : Int), .int .i64 (k : Int), .int .i64 (r : Int)]] W fun e w' => e = .returned (.int .i64 0) ∧ Below W.heap.size W w' := fun W => by
    have h := rCheck_any (c : Int) (k : Int) (r : Int) W
    rw [show Lay.checkI (c : Int) (k : Int) (r : Int) = 0 from if_pos hok] at h
    exact h
  have hne : ∀ W, Calls Tryz.prog 60 #[.agg #[.int .i64 (c : Int), .int .i64 (k : Int), .int .i64 (r : Int)]] W fun e w' => e = .returned (.int .i64 ((4 + r * k : Nat) : Int)) ∧ Below W.heap.size W w' := fun W => by
    have h := rNeed_any (c : Int) (k : Int) (r : Int) W
    rw [show Lay.needI (c : Int) (k : Int) (r : Int) = ((4 + r * k : Nat) : Int) by rw [show Lay.needI (c : Int) (k : Int) (r : Int) = 4 + (r : Int) * (k : Int) from if_pos hok]; rw [Int.natCast_add, Int.natCast_mul]; rfl] at h
    exact h
  have HCH : Hid (∀ W, Calls Tryz.prog 59 #[.agg #[.int .i64 (c : Int), .int .i64 (k : Int), .int .i64 (r : Int)]] W fun e w' => e = .returned (.int .i64 0) ∧ Below W.heap.size W w') := hch
  have X0 : Hid (At5 w w.heap.size c k r (.slice da dn dcap) (.slice ba bn bcap) (w.alloc (.cells #[.int .i64 (c : Int), .int .i64 (k : Int), .int .i64 (r : Int), .slice da dn dcap, .slice ba bn bcap] 33))) := At5.new _ _ _ _ _ _ _
  have hlast : w.heap.size < (w.alloc (.cells #[.int .i64 (c : Int), .int .i64 (k : Int), .int .i64 (r : Int), .slice da dn dcap, .slice ba bn bcap] 33)).heap.size := World.block_lt_of_cell? _ _ X0.out.1
  have hce : ∀ n : Nat, (((n : Int) != (c : Int)) = !decide (n = c)) := fun n => by
    by_cases e : n = c
    · rw [e, decide_eq_true rfl]; simp
    · rw [decide_eq_false e, bne_iff_ne.2 (by omega)]; rfl
  have c1 := hce dn
  have c2 := hce bn
  obtain ⟨d1, hd1⟩ : ∃ d1, decide (dn = c) = d1 := ⟨_, rfl⟩
  obtain ⟨d2, hd2⟩ : ∃ d2, decide (bn = c) = d2 := ⟨_, rfl⟩
  unfold Ro.mayB
  rw [hd1] at c1 ⊢
  rw [hd2] at c2 ⊢
  obtain ⟨nd, hnd⟩ : ∃ nd, nd = 4 + r * k := ⟨_, rfl⟩
  rw [← hnd] at hne ⊢
  have hnd1 : nd ≤ 2000 := by
    obtain ⟨_, ⟨k1, k2⟩, r1, r2⟩ := hok
    have : r * k ≤ 256 * 4 := Nat.mul_le_mul (by omega) (by omega)
    omega
  have HNE : Hid (∀ W, Calls Tryz.prog 60 #[.agg #[.int .i64 (c : Int), .int .i64 (k : Int), .int .i64 (r : Int)]] W fun e w' => e = .returned (.int .i64 (nd : Int)) ∧ Below W.heap.size W w') := hne
  have H : Hid (RefSet w da dn ba bn C bf) := h
  clear hch hne hce hd1 hd2 hnd h hok
  cases d1 with
  | false =>
    obtain ⟨k0, k1, k2, k3, k4, _⟩ := X0.out
    go_enter Tryz.func23, Tryz.ntmps23
    go_wp2_with (go_at_call 59; refine (HCH.out _).mono ?_; rintro e w1 ⟨rfl, hb1⟩; obtain ⟨j0, j1, j2, j3, j4, jb⟩ := X0.out.kept hb1; have B1 : Hid (Below w.heap.size w w1) := jb; have hl1 : w.heap.size < w1.heap.size := World.block_lt_of_cell? _ _ j0; clear hb1 jb)
    go_ret
    exact ⟨rfl, B1.out⟩
  | true =>
    cases d2 with
    | false =>
      obtain ⟨k0, k1, k2, k3, k4, _⟩ := X0.out
      go_enter Tryz.func23, Tryz.ntmps23
      go_wp2_with (go_at_call 59; refine (HCH.out _).mono ?_; rintro e w1 ⟨rfl, hb1⟩; obtain ⟨j0, j1, j2, j3, j4, jb⟩ := X0.out.kept hb1; have B1 : Hid (Below w.heap.size w w1) := jb; have hl1 : w.heap.size < w1.heap.size := World.block_lt_of_cell? _ _ j0; clear hb1 jb)
      go_ret
      exact ⟨rfl, B1.out⟩
    | true =>
      obtain ⟨k0, k1, k2, k3, k4, _⟩ := X0.out
      go_enter Tryz.func23, Tryz.ntmps23
      go_wp2_with (go_at_call 59; refine (HCH.out _).mono ?_; rintro e w1 ⟨rfl, hb1⟩; have X1 : Hid (At5 w w.heap.size c k r (.slice da dn dcap) (.slice ba bn bcap) w1) := X0.out.kept hb1; obtain ⟨j0, j1, j2, j3, j4, _⟩ := X0.out.kept hb1; have hl1 : w.heap.size < w1.heap.size := World.block_lt_of_cell? _ _ j0; clear hb1)
      go_loopg [3] dn (fun gg s3 wr => ∃ t : Nat, t ≤ dn ∧ gg = dn - t ∧ s3 = .int .i64 (t : Int) ∧ At5 w w.heap.size c k r (.slice da dn dcap) (.slice ba bn bcap) wr ∧ (List.range t).all (fun i => Ro.fitB nd (C i)) = true)
      case atStart => exact ⟨0, Nat.zero_le _, rfl, rfl, X1.out, rfl⟩
      case round =>
        obtain ⟨t, ht, rfl, rfl, hA, hall⟩ := hrel
        have HA : Hid (At5 w w.heap.size c k r (.slice da dn dcap) (.slice ba bn bcap) wr) := hA
        have HAL : Hid ((List.range t).all (fun i => Ro.fitB nd (C i)) = true) := hall
        have hset := H.out.below hA.2.2.2.2.2
        obtain ⟨q0, q1, q2, q3, q4, qb⟩ := hA
        have hlq : w.heap.size < wr.heap.size := World.block_lt_of_cell? _ _ q0
        clear k0 k1 k2 k3 k4 j0 j1 j2 j3 j4 X0 X1 hl1 hlast qb hall
        by_cases hlt : t < dn
        · have hi : (t : Int) < (dn : Int) := by omega
          obtain ⟨b1, o1, rfl, hp⟩ := hset.row t hlt
          have l1 := World.block_lt_of_cell? wr _ hp
          have hsucc : (List.range (t + 1)).all (fun i => Ro.fitB nd (C i)) = Ro.fitB nd (C t) := by
            rw [List.range_succ, List.all_append, HAL.out]; simp
          cases hC : C t with
          | none =>
            rw [hC] at hp hsucc
            simp only [Ro.ptr] at hp
            have HS : Hid ((List.range (t + 1)).all (fun i => Ro.fitB nd (C i)) = true) := hsucc
            clear hset hC hsucc
            go_wp2_with fail
            go_quiet (fail)
            go_wp2
            go_roundg (dn - (t + 1))
            case measure => omega
            case rel => exact ⟨t + 1, by omega, rfl, by go_num, HA.out.drewN _, HS.out⟩
          | some x =>
            obtain ⟨p, D⟩ := x
            rw [hC] at hp hsucc
            simp only [Ro.ptr] at hp
            obtain ⟨G, hG⟩ := hset.drv t p D hlt hC
            obtain ⟨⟨g, cp, hg, hcap, hmax⟩, _, hp1, hp2⟩ := hG.seen
            have l3 := World.block_lt_of_cell? wr _ hg
            unfold maxLen at hmax
            obtain ⟨n, hn⟩ : ∃ n, D.n = n := ⟨_, rfl⟩
            rw [hn] at hg hcap hp1 hp2
            have hfit : Ro.fitB nd (some (p, D)) = decide (nd ≤ n) := by show decide (nd ≤ D.n) = _; rw [hn]
            rw [hfit] at hsucc
            have hS0 : wr.drew.cell? ⟨w.heap.size, 0, none⟩ = some (.int .i64 (c : Int)) ∧ wr.drew.cell? ⟨w.heap.size, 1, none⟩ = some (.int .i64 (k : Int)) ∧ wr.drew.cell? ⟨w.heap.size, 2, none⟩ = some (.int .i64 (r : Int)) ∧ wr.drew.cell? ⟨w.heap.size, 3, none⟩ = some (.slice (some ⟨b1, o1, none⟩) dn dcap) ∧ wr.drew.cell? ⟨w.heap.size, 4, none⟩ = some (.slice ba bn bcap) ∧ wr.drew.cell? ⟨b1, o1 + t, none⟩ = some (.pointer (some ⟨p, 0, none⟩)) ∧ wr.drew.cell? ⟨p, 0, none⟩ = some (.slice (some ⟨g, 0, none⟩) n cp) ∧ Below w.heap.size w wr.drew :=
              ⟨q0, q1, q2, q3, q4, hp, hg, HA.out.2.2.2.2.2.drew⟩
            by_cases hf : nd ≤ n
            · have HS : Hid ((List.range (t + 1)).all (fun i => Ro.fitB nd (C i)) = true) := hsucc.trans (decide_eq_true hf)
              have u1 : decide ((n : Int) < (nd : Int)) = false := decide_eq_false (by omega)
              have u2 : decide (n < nd) = false := decide_eq_false (by omega)
              clear hset hC hsucc hG hfit hf hn
              go_wp2_with fail
              go_region_held3 (fun W => W.cell? ⟨w.heap.size, 0, none⟩ = some (.int .i64 (c : Int)) ∧ W.cell? ⟨w.heap.size, 1, none⟩ = some (.int .i64 (k : Int)) ∧ W.cell? ⟨w.heap.size, 2, none⟩ = some (.int .i64 (r : Int)) ∧ W.cell? ⟨w.heap.size, 3, none⟩ = some (.slice (some ⟨b1, o1, none⟩) dn dcap) ∧ W.cell? ⟨w.heap.size, 4, none⟩ = some (.slice ba bn bcap) ∧ W.cell? ⟨b1, o1 + t, none⟩ = some (.pointer (some ⟨p, 0, none⟩)) ∧ W.cell? ⟨p, 0, none⟩ = some (.slice (some ⟨g, 0, none⟩) n cp) ∧ Below w.heap.size w W) (first | exact hS0 | assumption) (first | (go_at_call 60; refine (HNE.out _).mono ?_; rintro e w3 ⟨rfl, hb3⟩; have hs3 := keep_may hb3 (by assumption)))
              all_goals
                go_wp2
                go_roundg (dn - (t + 1))
                case measure => omega
                case rel => exact ⟨t + 1, by omega, rfl, by go_num, may_five (by assumption), HS.out⟩
            · have HF : Hid ((List.range dn).all (fun i => Ro.fitB nd (C i)) = false) := by
                show _ = _
                rw [List.all_eq_false]
                exact ⟨t, List.mem_range.2 hlt, by rw [hC, hfit, decide_eq_false hf]; decide⟩
              have u1 : decide ((n : Int) < (nd : Int)) = true := decide_eq_true (by omega)
              have u2 : decide (n < nd) = true := decide_eq_true (by omega)
              clear hset hC hsucc hG hfit hf hn
              go_wp2_with fail
              go_region_held3 (fun W => W.cell? ⟨w.heap.size, 0, none⟩ = some (.int .i64 (c : Int)) ∧ W.cell? ⟨w.heap.size, 1, none⟩ = some (.int .i64 (k : Int)) ∧ W.cell? ⟨w.heap.size, 2, none⟩ = some (.int .i64 (r : Int)) ∧ W.cell? ⟨w.heap.size, 3, none⟩ = some (.slice (some ⟨b1, o1, none⟩) dn dcap) ∧ W.cell? ⟨w.heap.size, 4, none⟩ = some (.slice ba bn bcap) ∧ W.cell? ⟨b1, o1 + t, none⟩ = some (.pointer (some ⟨p, 0, none⟩)) ∧ W.cell? ⟨p, 0, none⟩ = some (.slice (some ⟨g, 0, none⟩) n cp) ∧ Below w.heap.size w W) (first | exact hS0 | assumption) (first | (go_at_call 60; refine (HNE.out _).mono ?_; rintro e w3 ⟨rfl, hb3⟩; have hs3 := keep_may hb3 (by assumption)))
              all_goals
                go_wp2
                go_ret
                exact ⟨ret_bool (by rw [HF.out]; try rfl), (may_five (c := c) (k := k) (r := r) (by assumption)).2.2.2.2.2⟩
        · have htn : t = dn := by omega
          have HS : Hid ((List.range dn).all (fun i => Ro.fitB nd (C i)) = true) := by rw [← htn]; exact HAL.out
          have hx : ¬ (t : Int) < (dn : Int) := by omega
          clear hset htn
          go_wp2
          go_ret
          exact ⟨ret_bool (by rw [HS.out]; try rfl), HA.out.2.2.2.2.2⟩
set_option maxRecDepth 100000 in
set_option maxHeartbeats 4000000 in
theorem rCheck16 (hok : Lay.ok (c : Int) (k : Int) (r : Int)) (hdn : dn ≤ 1000000) (row off : Int) (w : World) (h : RefSet w da dn ba bn C bf) :
    Calls Tryz.prog 42 #[.agg #[.int .i64 (c : Int), .int .i64 (k : Int), .int .i64 (r : Int), .slice da dn dcap, .slice ba bn bcap], .int .i64 row, .int .i64 off] w fun e w' => e = .returned (.int .i64 (Ro.chk c k r dn bn C row off : Nat)) ∧ Below w.heap.size w w' := by
  have X0 : Hid (At5 w w.heap.size c k r (.slice da dn dcap) (.slice ba bn bcap) (w.alloc (.cells #[.int .i64 (c : Int), .int .i64 (k : Int), .int .i64 (r : Int), .slice da dn dcap, .slice ba bn bcap] 33))) := At5.new _ _ _ _ _ _ _
  have hm := rMay16 (dcap := dcap) (bcap := bcap) hok hdn _ (h.below X0.out.2.2.2.2.2)
  obtain ⟨my, hmy⟩ : ∃ my, Ro.mayB c k r dn bn C = my := ⟨_, rfl⟩
  rw [hmy] at hm
  have HM : Hid (Calls Tryz.prog 23 #[.agg #[.int .i64 (c : Int), .int .i64 (k : Int), .int .i64 (r : Int), .slice da dn dcap, .slice ba bn bcap]] (w.alloc (.cells #[.int .i64 (c : Int), .int .i64 (k : Int), .int .i64 (r : Int), .slice da dn dcap, .slice ba bn bcap] 33)) fun e w' => e = .returned (.bool my) ∧ Below (w.alloc (.cells #[.int .i64 (c : Int), .int .i64 (k : Int), .int .i64 (r : Int), .slice da dn dcap, .slice ba bn bcap] 33)).heap.size (w.alloc (.cells #[.int .i64 (c : Int), .int .i64 (k : Int), .int .i64 (r : Int), .slice da dn dcap, .slice ba bn bcap] 33)) w') := hm
  unfold Ro.chk
  rw [hmy]
  clear hm hmy h hok
  cases my with
  | false =>
    go_enter Tryz.func42, Tryz.ntmps42
    go_wp2_with fail
    refine HM.out.mono ?_
    rintro e w1 ⟨rfl, hb1⟩
    have B1 : Hid (Below w.heap.size w w1) := (X0.out.kept hb1).2.2.2.2.2
    clear hb1
    go_wp2
    go_ret
    exact ⟨rfl, B1.out⟩
  | true =>
    rw [if_pos rfl]
    have b1 : decide (row < 0) = !decide (0 ≤ row) := by by_cases e : 0 ≤ row <;> simp [e] <;> omega
    have b2 : decide ((r : Int) ≤ row) = !decide (row < (r : Int)) := by by_cases e : row < (r : Int) <;> simp [e] <;> omega
    have b3 : decide (off < 0) = !decide (0 ≤ off) := by by_cases e : 0 ≤ off <;> simp [e] <;> omega
    have b4 : decide ((k : Int) ≤ off) = !decide (off < (k : Int)) := by by_cases e : off < (k : Int) <;> simp [e] <;> omega
    unfold Ro.inB
    obtain ⟨y1, hy1⟩ : ∃ y1, decide (0 ≤ row) = y1 := ⟨_, rfl⟩
    obtain ⟨y2, hy2⟩ : ∃ y2, decide (row < (r : Int)) = y2 := ⟨_, rfl⟩
    obtain ⟨y3, hy3⟩ : ∃ y3, decide (0 ≤ off) = y3 := ⟨_, rfl⟩
    obtain ⟨y4, hy4⟩ : ∃ y4, decide (off < (k : Int)) = y4 := ⟨_, rfl⟩
    rw [hy1] at b1 ⊢
    rw [hy2] at b2 ⊢
    rw [hy3] at b3 ⊢
    rw [hy4] at b4 ⊢
    clear hy1 hy2 hy3 hy4
    go_enter Tryz.func42, Tryz.ntmps42
    go_wp2_with fail
    refine HM.out.mono ?_
    rintro e w1 ⟨rfl, hb1⟩
    have B1 : Hid (Below w.heap.size w w1) := (X0.out.kept hb1).2.2.2.2.2
    obtain ⟨q0, q1, q2, q3, q4, _⟩ := X0.out.kept hb1
    clear hb1 X0 HM
    cases y1 <;> cases y2 <;> cases y3 <;> cases y4 <;>
      (go_wp2
       go_ret
       exact ⟨rfl, B1.out⟩)
end
end Go.Proofs.YtdgkhjgnjfgnlaaGreat
