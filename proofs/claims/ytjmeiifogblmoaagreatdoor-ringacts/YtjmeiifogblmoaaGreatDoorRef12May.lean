/- The walks of the document's own May, and of places. -/
import Derived.Test.YtjmeiifogblmoaaGreatDoorMRecB
import Derived.Deep.LoopGhost
import Derived.BigQuiet
namespace Go.Proofs.YtjmeiifogblmoaaGreatDoor
open Go.RowKit

set_option maxRecDepth 100000 in
set_option maxHeartbeats 2000000 in
theorem rplaces_few (seq row : Int) (a : Option Addr) (n cap : Nat) (w : World) (hr : -9223372036854775808 ≤ row ∧ row ≤ 9223372036854775807) (hn : n ≤ 9223372036854775807) (h : Rc.fewB row n = false) :
    Calls Tryz.prog 131 #[.agg #[.int .u64 seq, .int .i64 row, .slice a n cap]] w fun e w' => e = .returned (.bool false) ∧ Below w.heap.size w w' := by
  by_cases h1 : row < 0
  · clear h
    go_enter Tryz.func131, Tryz.ntmps131
    go_wp2
    go_ret
    exact ⟨rfl, (Below.refl _ w).alloc (Nat.le_refl _) _⟩
  · by_cases h2 : 256 ≤ row
    · clear h
      go_enter Tryz.func131, Tryz.ntmps131
      go_wp2
      go_ret
      exact ⟨rfl, (Below.refl _ w).alloc (Nat.le_refl _) _⟩
    · by_cases h3 : (n : Int) < 1
      · clear h
        go_enter Tryz.func131, Tryz.ntmps131
        go_wp2
        go_ret
        exact ⟨rfl, (Below.refl _ w).alloc (Nat.le_refl _) _⟩
      · by_cases h4 : (40 : Int) < (n : Int)
        · clear h
          go_enter Tryz.func131, Tryz.ntmps131
          go_wp2
          go_ret
          exact ⟨rfl, (Below.refl _ w).alloc (Nat.le_refl _) _⟩
        · exfalso
          have := (Rc.few_iff row n).2 ⟨by omega, by omega, by omega, by omega⟩
          rw [h] at this; cases this

set_option maxRecDepth 100000 in
set_option maxHeartbeats 4000000 in
theorem rplaces_some (seq row : Int) (b off n cap : Nat) (f : Nat → Prt) (w : World) (hin : RecIn row n f) (hp : ∀ j, j < n → PartAt w b (off + j * 3) (f j)) (h : Rc.fewB row n = true) :
    Calls Tryz.prog 131 #[.agg #[.int .u64 seq, .int .i64 row, .slice (some ⟨b, off, none⟩) n cap]] w fun e w' => e = .returned (.bool (Rc.okTo f n)) ∧ Below w.heap.size w w' := by
  obtain ⟨r0, r1, n1, n40⟩ := (Rc.few_iff row n).1 h
  have h1 : ¬ row < 0 := by omega
  have h2 : ¬ 256 ≤ row := by omega
  have h3 : ¬ (n : Int) < 1 := by omega
  have h4 : ¬ (40 : Int) < (n : Int) := by omega
  have HP : Hid (∀ j, j < n → PartAt w b (off + j * 3) (f j)) := hp
  have HI : Hid (RecIn row n f) := hin
  have H40 : Hid (n ≤ 40) := n40
  clear h hp hin r0 r1 n1 n40
  go_enter Tryz.func131, Tryz.ntmps131
  go_wp2
  go_loopg [3] n (fun gg i wr => ∃ k : Nat, k ≤ n ∧ gg = n - k ∧ i = .int .i64 (k : Int) ∧ Below (w.alloc (.cells #[.int .u64 seq, .int .i64 row, .slice (some ⟨b, off, none⟩) n cap] 74)).heap.size (w.alloc (.cells #[.int .u64 seq, .int .i64 row, .slice (some ⟨b, off, none⟩) n cap] 74)) wr ∧ Rc.okTo f k = true)
  case atStart => exact ⟨0, Nat.zero_le _, rfl, rfl, Below.refl _ _, rfl⟩
  case round =>
  obtain ⟨k, hk, rfl, rfl, hb, hok⟩ := hrel
  have HB : Hid (Below (w.alloc (.cells #[.int .u64 seq, .int .i64 row, .slice (some ⟨b, off, none⟩) n cap] 74)).heap.size (w.alloc (.cells #[.int .u64 seq, .int .i64 row, .slice (some ⟨b, off, none⟩) n cap] 74)) wr) := hb
  have HOk : Hid (Rc.okTo f k = true) := hok
  have d2 : wr.cell? ⟨w.heap.size, 2, none⟩ = some (.slice (some ⟨b, off, none⟩) n cap) := box_cell hb 2
  clear hb hok
  by_cases hlt : k < n
  case neg =>
    have hkn : k = n := by omega
    subst hkn
    clear hlt hk
    go_wp2
    go_ret
    exact ⟨by rw [HOk.out]; rfl, box_below HB.out⟩
  case pos =>
  have hki : (k : Int) < (n : Int) := by omega
  have hpk := (HP.out k hlt).below (box_below HB.out) (HP.out k hlt).lt
  have c0 := hpk.c0
  have c1 := hpk.c1
  have c2 := hpk.c2
  obtain ⟨i1, i2⟩ := HI.out.hcol k hlt
  obtain ⟨i3, i4⟩ := HI.out.hoff k hlt
  obtain ⟨x, hx⟩ : ∃ x, x = f k := ⟨_, rfl⟩
  rw [← hx] at c0 c1 c2 i1 i2 i3 i4
  have HX : Hid (x = f k) := hx
  obtain ⟨xc, xo, xd⟩ := x
  dsimp only at c0 c1 c2 i1 i2 i3 i4
  have hin : Rc.inB (f k) = (decide (0 ≤ xc) && (decide (xc < 10) && (decide (0 ≤ xo) && decide (xo < 4)))) := by rw [← hx]; rfl
  have BX : Hid (Below w.heap.size w (wr.alloc (.cells #[.int .i64 xc, .int .i64 xo, .string xd] 119))) := (box_below HB.out).alloc (box_below HB.out).size _
  have HLT : Hid (k < n) := hlt
  clear hpk hx
  by_cases hbd : Rc.inB (f k) = true
  case neg =>
    have HNo : Hid (Rc.okTo f n = false) := Rc.okTo_not hlt (.inl (by simpa using hbd))
    rw [hin] at hbd
    clear hin
    by_cases g1 : xc < 0
    · clear hbd
      go_wp2
      go_ret
      exact ⟨by rw [HNo.out]; rfl, BX.out⟩
    · by_cases g2 : 10 ≤ xc
      · clear hbd
        go_wp2
        go_ret
        exact ⟨by rw [HNo.out]; rfl, BX.out⟩
      · by_cases g3 : xo < 0
        · clear hbd
          go_wp2
          go_ret
          exact ⟨by rw [HNo.out]; rfl, BX.out⟩
        · by_cases g4 : 4 ≤ xo
          · clear hbd
            go_wp2
            go_ret
            exact ⟨by rw [HNo.out]; rfl, BX.out⟩
          · exfalso
            apply hbd
            simp
            omega
  case pos =>
  rw [hin] at hbd
  simp only [Bool.and_eq_true, decide_eq_true_eq] at hbd
  obtain ⟨g1, g2, g3, g4⟩ := hbd
  have HIn : Hid (Rc.inB (f k) = true) := by show _ = _; rw [hin]; simp; omega
  have g1' : ¬ xc < 0 := by omega
  have g2' : ¬ 10 ≤ xc := by omega
  have g3' : ¬ xo < 0 := by omega
  have g4' : ¬ 4 ≤ xo := by omega
  clear hin
  go_wp2
  obtain ⟨wq, hwq⟩ : ∃ wq, wq = wr.alloc (.cells #[.int .i64 xc, .int .i64 xo, .string xd] 119) := ⟨_, rfl⟩
  have hwb : Below wr.heap.size wr wq := by rw [hwq]; exact (Below.refl _ wr).alloc (Nat.le_refl _) _
  have q0 : wq.cell? ⟨wr.heap.size, 0, none⟩ = some (.int .i64 xc) := by rw [hwq]; exact World.cell?_alloc_mark wr _ _ (0, 0) 0
  have q1 : wq.cell? ⟨wr.heap.size, 1, none⟩ = some (.int .i64 xo) := by rw [hwq]; exact World.cell?_alloc_mark wr _ _ (0, 0) 1
  rw [← hwq] at BX ⊢
  obtain ⟨zb, hzb⟩ : ∃ zb, zb = wr.heap.size := ⟨_, rfl⟩
  rw [← hzb] at q0 q1 ⊢
  have Q2 : wq.cell? ⟨w.heap.size, 2, none⟩ = some (.slice (some ⟨b, off, none⟩) n cap) := (hwb.cell (p := ⟨w.heap.size, 2, none⟩) (World.block_lt_of_cell? wr _ d2)).trans d2
  have HQ : Hid (wq.cell? ⟨zb, 0, none⟩ = some (.int .i64 xc) ∧ wq.cell? ⟨zb, 1, none⟩ = some (.int .i64 xo) ∧ wq.cell? ⟨w.heap.size, 2, none⟩ = some (.slice (some ⟨b, off, none⟩) n cap)) := ⟨q0, q1, Q2⟩
  have HRec : Hid (Below (w.alloc (.cells #[.int .u64 seq, .int .i64 row, .slice (some ⟨b, off, none⟩) n cap] 74)).heap.size (w.alloc (.cells #[.int .u64 seq, .int .i64 row, .slice (some ⟨b, off, none⟩) n cap] 74)) wq) := HB.out.trans (hwb.mono HB.out.size)
  clear hwq hwb hzb q0 q1 Q2 d2 c0 c1 c2 g1' g2' g3' g4' g1 g2 g3 g4
  go_loopg [5] k (fun gg j wz => ∃ q : Nat, q ≤ k ∧ gg = k - q ∧ j = .int .i64 (q : Int) ∧ Below wq.heap.size wq wz ∧ Rc.freshTo f k q = true)
  case atStart => exact ⟨0, Nat.zero_le _, rfl, rfl, Below.refl _ _, rfl⟩
  case round =>
  obtain ⟨q, hq, rfl, rfl, hb2, hfr⟩ := hrel
  have HB2 : Hid (Below wq.heap.size wq wr) := hb2
  have HFr : Hid (Rc.freshTo f k q = true) := hfr
  have hl0 := World.block_lt_of_cell? wq _ HQ.out.1
  have hl1 := World.block_lt_of_cell? wq _ HQ.out.2.2
  have q0 := (hb2.cell (p := ⟨zb, 0, none⟩) hl0).trans HQ.out.1
  have q1 := (hb2.cell (p := ⟨zb, 1, none⟩) hl0).trans HQ.out.2.1
  have q2 := (hb2.cell (p := ⟨w.heap.size, 2, none⟩) hl1).trans HQ.out.2.2
  have HBW : Hid (Below w.heap.size w wr) := BX.out.trans (hb2.mono BX.out.size)
  clear hb2 hfr hl0 hl1
  by_cases hqk : q < k
  case neg =>
    have hqe : q = k := by omega
    subst hqe
    have HN : Hid (Rc.okTo f (q + 1) = true) := by show _ = _; unfold Rc.okTo; rw [HOk.out, HIn.out, HFr.out]; rfl
    have HB3 : Hid (Below (w.alloc (.cells #[.int .u64 seq, .int .i64 row, .slice (some ⟨b, off, none⟩) n cap] 74)).heap.size (w.alloc (.cells #[.int .u64 seq, .int .i64 row, .slice (some ⟨b, off, none⟩) n cap] 74)) wr) := HRec.out.trans (HB2.out.mono HRec.out.size)
    go_wp2
    go_roundg (n - (q + 1))
    case measure => omega
    case rel => exact ⟨q + 1, by omega, rfl, by go_num, HB3.out, HN.out⟩
  case pos =>
  have hqi : (q : Int) < (k : Int) := by omega
  have hqn : (q : Int) < (n : Int) := by omega
  have hpq := (HP.out q (by omega)).below HBW.out (HP.out q (by omega)).lt
  have y0 := hpq.c0
  have y1 := hpq.c1
  obtain ⟨y, hy⟩ : ∃ y, y = f q := ⟨_, rfl⟩
  rw [← hy] at y0 y1
  have hsm : Rc.sameB (f q) (f k) = (decide (y.col = xc) && decide (y.off = xo)) := by rw [← hy, ← HX.out]; rfl
  obtain ⟨yc, yo, yd⟩ := y
  dsimp only at y0 y1 hsm
  have HSm : Hid _ := hsm
  clear hpq hy hsm
  by_cases e0 : yc = xc
  · by_cases e1 : yo = xo
    · have b0 : (yc == xc) = true := by rw [e0]; simp
      have b1 : (yo == xo) = true := by rw [e1]; simp
      have HNo : Hid (Rc.okTo f n = false) := Rc.okTo_not HLT.out (.inr (Rc.freshTo_not hqk (by rw [HSm.out, e0, e1]; simp)))
      clear e0 e1
      go_wp2
      go_quiet (fail)
      go_wp2
      go_ret
      exact ⟨by rw [HNo.out]; rfl, below_drewN HBW.out _⟩
    · have b0 : (yc == xc) = true := by rw [e0]; simp
      have b1 : (yo == xo) = false := by rw [beq_eq_false_iff_ne]; exact e1
      have HN : Hid (Rc.freshTo f k (q + 1) = true) := by show _ = _; unfold Rc.freshTo; rw [HFr.out, HSm.out]; simp [e1]
      clear e0 e1
      go_wp2
      go_quiet (fail)
      go_wp2
      go_roundg (k - (q + 1))
      case measure => omega
      case rel => exact ⟨q + 1, by omega, rfl, by go_num, below_drewN HB2.out _, HN.out⟩
  · have b0 : (yc == xc) = false := by rw [beq_eq_false_iff_ne]; exact e0
    have HN : Hid (Rc.freshTo f k (q + 1) = true) := by show _ = _; unfold Rc.freshTo; rw [HFr.out, HSm.out]; simp [e0]
    clear e0
    go_wp2
    go_quiet (fail)
    go_wp2
    go_roundg (k - (q + 1))
    case measure => omega
    case rel => exact ⟨q + 1, by omega, rfl, by go_num, below_drewN HB2.out _, HN.out⟩

/-- the document's own places, of any record -/
theorem rplaces_any (seq row : Int) (a : Option Addr) (n cap : Nat) (f : Nat → Prt) (w : World) (hin : RecIn row n f) (hp : PartsR w a n f) :
    Calls Tryz.prog 131 #[.agg #[.int .u64 seq, .int .i64 row, .slice a n cap]] w fun e w' => e = .returned (.bool (Rc.placesB row n f)) ∧ Below w.heap.size w w' := by
  unfold Rc.placesB
  cases h : Rc.fewB row n with
  | false => exact rplaces_few seq row a n cap w hin.hrow hin.hlen h
  | true =>
    obtain ⟨b, off, rfl, hp2⟩ := hp.head (by have := (Rc.few_iff row n).1 h; omega)
    exact rplaces_some seq row b off n cap f w hin hp2 h

set_option maxRecDepth 100000 in
set_option maxHeartbeats 2000000 in
theorem rMay12_some (seq row : Int) (b off n cap : Nat) (f : Nat → Prt) (w : World) (hin : RecIn row n f) (hp : ∀ j, j < n → PartAt w b (off + j * 3) (f j)) :
    Calls Tryz.prog 103 #[.agg #[.int .u64 seq, .int .i64 row, .slice (some ⟨b, off, none⟩) n cap]] w fun e w' => e = .returned (.bool (Rc.mayB row n f)) ∧ Below w.heap.size w w' := by
  have hPl := fun (W : World) (hW : Below w.heap.size w W) => rplaces_any seq row (some ⟨b, off, none⟩) n cap f W hin (fun j hj => ⟨b, off, rfl, (hp j hj).below hW (hp j hj).lt⟩)
  have HP : Hid (∀ j, j < n → PartAt w b (off + j * 3) (f j)) := hp
  have HPl : Hid _ := hPl
  have hlen := hin.hlen
  have HI : Hid (RecIn row n f) := hin
  clear hp hin hPl
  go_enter Tryz.func103, Tryz.ntmps103
  go_wp2
  go_loopg [3] n (fun gg i wr => ∃ k : Nat, k ≤ n ∧ gg = n - k ∧ i = .int .i64 (k : Int) ∧ wr = w.alloc (.cells #[.int .u64 seq, .int .i64 row, .slice (some ⟨b, off, none⟩) n cap] 74) ∧ Rc.fullTo f k = true)
  case atStart => exact ⟨0, Nat.zero_le _, rfl, rfl, rfl, rfl⟩
  case round =>
  obtain ⟨k, hk, rfl, rfl, rfl, hfu⟩ := hrel
  have HF : Hid (Rc.fullTo f k = true) := hfu
  have ab : Below w.heap.size w (w.alloc (.cells #[.int .u64 seq, .int .i64 row, .slice (some ⟨b, off, none⟩) n cap] 74)) := (Below.refl _ w).alloc (Nat.le_refl _) _
  have AB : Hid (Below w.heap.size w (w.alloc (.cells #[.int .u64 seq, .int .i64 row, .slice (some ⟨b, off, none⟩) n cap] 74))) := ab
  clear hfu
  by_cases hlt : k < n
  case neg =>
    have hkn : k = n := by omega
    subst hkn
    have hpl := HPl.out _ ab
    clear hlt hk ab
    go_wp2_with fail
    refine Calls.mono hpl ?_
    rintro e w2 ⟨rfl, b2⟩
    go_wp2
    go_ret
    refine ⟨?_, AB.out.trans (b2.mono AB.out.size)⟩
    show Ending.returned (.bool (Rc.placesB row k f)) = _
    unfold Rc.mayB
    rw [HF.out, Bool.true_and]
  case pos =>
  have hki : (k : Int) < (n : Int) := by omega
  have hpk := (HP.out k hlt).below ab (HP.out k hlt).lt
  have c2 := hpk.c2
  obtain ⟨s, hs⟩ : ∃ s, s = (f k).data := ⟨_, rfl⟩
  rw [← hs] at c2
  have HS : Hid (s = (f k).data) := hs
  clear hpk hs ab
  by_cases h64 : s.size = 64
  · have hne : ((s.size : Int) != 64) = false := by rw [bne_eq_false_iff_eq]; omega
    have HN : Hid (Rc.fullTo f (k + 1) = true) := by show _ = _; unfold Rc.fullTo; rw [HF.out, ← HS.out, h64]; rfl
    clear h64
    go_wp2
    go_roundg (n - (k + 1))
    case measure => omega
    case rel => exact ⟨k + 1, by omega, rfl, by go_num, rfl, HN.out⟩
  · have hne : ((s.size : Int) != 64) = true := by rw [bne_iff_ne]; omega
    have HNo : Hid (Rc.mayB row n f = false) := by show _ = _; unfold Rc.mayB; rw [Rc.fullTo_not hlt (by rw [← HS.out]; exact h64)]; rfl
    clear h64
    go_wp2
    go_ret
    exact ⟨by rw [HNo.out]; rfl, AB.out⟩

set_option maxRecDepth 100000 in
set_option maxHeartbeats 2000000 in
theorem rMay12_nil (seq row : Int) (a : Option Addr) (cap : Nat) (f : Nat → Prt) (w : World) (hin : RecIn row 0 f) :
    Calls Tryz.prog 103 #[.agg #[.int .u64 seq, .int .i64 row, .slice a 0 cap]] w fun e w' => e = .returned (.bool (Rc.mayB row 0 f)) ∧ Below w.heap.size w w' := by
  have hPl := fun (W : World) => rplaces_any seq row a 0 cap f W hin (PartsR.nil W a f)
  have HPl : Hid _ := hPl
  clear hPl
  go_enter Tryz.func103, Tryz.ntmps103
  go_wp2
  go_loopg [3] 0 (fun gg i wr => gg = 0 ∧ i = .int .i64 0 ∧ wr = w.alloc (.cells #[.int .u64 seq, .int .i64 row, .slice a 0 cap] 74))
  case atStart => exact ⟨rfl, rfl, rfl⟩
  case round =>
  obtain ⟨rfl, rfl, rfl⟩ := hrel
  have AB : Hid (Below w.heap.size w (w.alloc (.cells #[.int .u64 seq, .int .i64 row, .slice a 0 cap] 74))) := (Below.refl _ w).alloc (Nat.le_refl _) _
  go_wp2_with fail
  refine Calls.mono (HPl.out _) ?_
  rintro e w2 ⟨rfl, b2⟩
  go_wp2
  go_ret
  exact ⟨rfl, AB.out.trans (b2.mono AB.out.size)⟩

/-- the document's own May, of any record -/
theorem rMay12_any (seq row : Int) (a : Option Addr) (n cap : Nat) (f : Nat → Prt) (w : World) (hin : RecIn row n f) (hp : PartsR w a n f) :
    Calls Tryz.prog 103 #[.agg #[.int .u64 seq, .int .i64 row, .slice a n cap]] w fun e w' => e = .returned (.bool (Rc.mayB row n f)) ∧ Below w.heap.size w w' := by
  cases n with
  | zero => exact rMay12_nil seq row a cap f w hin
  | succ n =>
    obtain ⟨b, off, rfl, hp2⟩ := hp.head (Nat.succ_pos n)
    exact rMay12_some seq row b off (n + 1) cap f w hin hp2
end Go.Proofs.YtjmeiifogblmoaaGreatDoor
