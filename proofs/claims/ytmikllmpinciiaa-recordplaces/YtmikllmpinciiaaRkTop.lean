/- The walks of the program's own placed, and May. -/
import Derived.Test.YtmikllmpinciiaaRkApart
import Derived.BigQuiet
namespace Go.Proofs.Ytmikllmpinciiaa
open Go.RowKit

theorem RecIn.wide {row : Int} {n : Nat} {f : Nat → Prt} (h : RecIn row n f) : ∀ j, j < n → Rc.Wide (f j) := fun j hj => ⟨h.hcol j hj, h.hoff j hj⟩
set_option maxRecDepth 100000 in
set_option maxHeartbeats 2000000 in
theorem placed12_few (seq row : Int) (a : Option Addr) (n cap : Nat) (w : World) (hr : -9223372036854775808 ≤ row ∧ row ≤ 9223372036854775807) (hn : n ≤ 9223372036854775807) (h : Rc.fewB row n = false) :
    Calls Try.prog 8 #[.agg #[.int .u64 seq, .int .i64 row, .slice a n cap]] w fun e w' => e = .returned (.bool false) ∧ Below w.heap.size w w' := by
  by_cases h1 : row < 0
  · clear h
    go_enter Try.func8, Try.ntmps8
    go_wp2
    go_ret
    exact ⟨rfl, (Below.refl _ w).alloc (Nat.le_refl _) _⟩
  · by_cases h2 : 256 ≤ row
    · clear h
      go_enter Try.func8, Try.ntmps8
      go_wp2
      go_ret
      exact ⟨rfl, (Below.refl _ w).alloc (Nat.le_refl _) _⟩
    · by_cases h3 : (n : Int) < 1
      · clear h
        go_enter Try.func8, Try.ntmps8
        go_wp2
        go_ret
        exact ⟨rfl, (Below.refl _ w).alloc (Nat.le_refl _) _⟩
      · by_cases h4 : (40 : Int) < (n : Int)
        · clear h
          go_enter Try.func8, Try.ntmps8
          go_wp2
          go_ret
          exact ⟨rfl, (Below.refl _ w).alloc (Nat.le_refl _) _⟩
        · exfalso
          have := (Rc.few_iff row n).2 ⟨by omega, by omega, by omega, by omega⟩
          rw [h] at this; cases this

set_option maxRecDepth 100000 in
set_option maxHeartbeats 4000000 in
theorem placed12_some (seq row : Int) (b off n cap : Nat) (f : Nat → Prt) (w : World) (hin : RecIn row n f) (hp : ∀ j, j < n → PartAt w b (off + j * 3) (f j)) (h : Rc.fewB row n = true) :
    Calls Try.prog 8 #[.agg #[.int .u64 seq, .int .i64 row, .slice (some ⟨b, off, none⟩) n cap]] w fun e w' => e = .returned (.bool (Rc.placesB row n f)) ∧ Below w.heap.size w w' := by
  obtain ⟨r0, r1, n1, n40⟩ := (Rc.few_iff row n).1 h
  have h1 : ¬ row < 0 := by omega
  have h2 : ¬ 256 ≤ row := by omega
  have h3 : ¬ (n : Int) < 1 := by omega
  have h4 : ¬ (40 : Int) < (n : Int) := by omega
  have hAp := fun (W : World) (hr : PartsR W (some ⟨b, off, none⟩) n f) => apart12_any (some ⟨b, off, none⟩) n cap f W hin.wide n1 (by omega) hr
  have HAp : Hid _ := hAp
  have HP : Hid (∀ j, j < n → PartAt w b (off + j * 3) (f j)) := hp
  have HI : Hid (RecIn row n f) := hin
  have HF : Hid (Rc.fewB row n = true) := h
  have H40 : Hid (n ≤ 40) := n40
  clear h hp hin r0 r1 n1 n40 hAp
  go_enter Try.func8, Try.ntmps8
  go_wp2
  go_loopg [28] n (fun gg i wr => ∃ k : Nat, k ≤ n ∧ gg = n - k ∧ i = .int .i64 (k : Int) ∧ Below (w.alloc (.cells #[.int .u64 seq, .int .i64 row, .slice (some ⟨b, off, none⟩) n cap] 26)).heap.size (w.alloc (.cells #[.int .u64 seq, .int .i64 row, .slice (some ⟨b, off, none⟩) n cap] 26)) wr ∧ Rc.inTo f k = true)
  case atStart => exact ⟨0, Nat.zero_le _, rfl, rfl, Below.refl _ _, rfl⟩
  case round =>
  obtain ⟨k, hk, rfl, rfl, hb, hok⟩ := hrel
  have HB : Hid (Below (w.alloc (.cells #[.int .u64 seq, .int .i64 row, .slice (some ⟨b, off, none⟩) n cap] 26)).heap.size (w.alloc (.cells #[.int .u64 seq, .int .i64 row, .slice (some ⟨b, off, none⟩) n cap] 26)) wr) := hb
  have HOk : Hid (Rc.inTo f k = true) := hok
  have d2 : wr.cell? ⟨w.heap.size, 2, none⟩ = some (.slice (some ⟨b, off, none⟩) n cap) := box_cell hb 2
  clear hb hok
  by_cases hlt : k < n
  case neg =>
    have hkn : k = n := by omega
    subst hkn
    have hap := HAp.out wr (fun j hj => ⟨b, off, rfl, (HP.out j hj).below (box_below HB.out) (HP.out j hj).lt⟩)
    rw [← Rc.places_apart HF.out HOk.out] at hap
    clear hlt hk
    go_wp2_with fail
    refine hap.mono ?_
    rintro e w3 ⟨rfl, hb3⟩
    have HB3 : Hid (Below w.heap.size w w3) := below2 (box_below HB.out) hb3
    clear hb3 hap
    go_wp2
    go_ret
    exact ⟨rfl, HB3.out⟩
  case pos =>
  have hki : (k : Int) < (n : Int) := by omega
  have hpk := (HP.out k hlt).below (box_below HB.out) (HP.out k hlt).lt
  have c0 := hpk.c0
  have c1 := hpk.c1
  have c2 := hpk.c2
  obtain ⟨i1, i2⟩ := HI.out.hcol k hlt
  obtain ⟨i3, i4⟩ := HI.out.hoff k hlt
  obtain ⟨x, hx⟩ : ∃ x, x = f k := ⟨_, rfl⟩
  rw [← hx] at c0 c1 c2 i1 i2 i3 i4
  obtain ⟨xc, xo, xd⟩ := x
  dsimp only at c0 c1 c2 i1 i2 i3 i4
  have hin : Rc.inB (f k) = (decide (0 ≤ xc) && (decide (xc < 10) && (decide (0 ≤ xo) && decide (xo < 4)))) := by rw [← hx]; rfl
  have BX : Hid (Below w.heap.size w (wr.alloc (.cells #[.int .i64 xc, .int .i64 xo, .string xd] 31))) := (box_below HB.out).alloc (box_below HB.out).size _
  have hszr := HB.out.size
  have BR : Hid (Below (w.alloc (.cells #[.int .u64 seq, .int .i64 row, .slice (some ⟨b, off, none⟩) n cap] 26)).heap.size (w.alloc (.cells #[.int .u64 seq, .int .i64 row, .slice (some ⟨b, off, none⟩) n cap] 26)) (wr.alloc (.cells #[.int .i64 xc, .int .i64 xo, .string xd] 31))) := HB.out.alloc hszr _
  clear hpk hx hszr
  by_cases hbd : Rc.inB (f k) = true
  case neg =>
    have HNo : Hid (Rc.placesB row n f = false) := Rc.places_out (Rc.inTo_not hlt (by simpa using hbd))
    rw [hin] at hbd
    clear hin
    by_cases g1 : xc < 0
    · clear hbd
      go_wp2
      go_ret
      exact ⟨by rw [HNo.out]; rfl, BX.out⟩
    · by_cases g2 : 10 ≤ xc
      · clear hbd
        go_wp2
        go_ret
        exact ⟨by rw [HNo.out]; rfl, BX.out⟩
      · by_cases g3 : xo < 0
        · clear hbd
          go_wp2
          go_ret
          exact ⟨by rw [HNo.out]; rfl, BX.out⟩
        · by_cases g4 : 4 ≤ xo
          · clear hbd
            go_wp2
            go_ret
            exact ⟨by rw [HNo.out]; rfl, BX.out⟩
          · exfalso
            apply hbd
            simp
            omega
  case pos =>
  have HIn : Hid (Rc.inTo f (k + 1) = true) := by show _ = _; unfold Rc.inTo; rw [HOk.out, hbd]; rfl
  rw [hin] at hbd
  simp only [Bool.and_eq_true, decide_eq_true_eq] at hbd
  obtain ⟨g1, g2, g3, g4⟩ := hbd
  have g1' : ¬ xc < 0 := by omega
  have g2' : ¬ 10 ≤ xc := by omega
  have g3' : ¬ xo < 0 := by omega
  have g4' : ¬ 4 ≤ xo := by omega
  clear hin
  go_wp2
  go_roundg (n - (k + 1))
  case measure => omega
  case rel => exact ⟨k + 1, by omega, rfl, by go_num, BR.out, HIn.out⟩
/-- the program's own placed, of any record -/
theorem placed12_any (seq row : Int) (a : Option Addr) (n cap : Nat) (f : Nat → Prt) (w : World) (hin : RecIn row n f) (hp : PartsR w a n f) :
    Calls Try.prog 8 #[.agg #[.int .u64 seq, .int .i64 row, .slice a n cap]] w fun e w' => e = .returned (.bool (Rc.placesB row n f)) ∧ Below w.heap.size w w' := by
  cases h : Rc.fewB row n with
  | false =>
    rw [Rc.places_few h]
    exact placed12_few seq row a n cap w hin.hrow hin.hlen h
  | true =>
    obtain ⟨b, off, rfl, hp2⟩ := hp.head (by have := (Rc.few_iff row n).1 h; omega)
    exact placed12_some seq row b off n cap f w hin hp2 h

set_option maxRecDepth 100000 in
set_option maxHeartbeats 2000000 in
theorem May12_some (seq row : Int) (b off n cap : Nat) (f : Nat → Prt) (w : World) (hin : RecIn row n f) (hp : ∀ j, j < n → PartAt w b (off + j * 3) (f j)) :
    Calls Try.prog 5 #[.agg #[.int .u64 seq, .int .i64 row, .slice (some ⟨b, off, none⟩) n cap]] w fun e w' => e = .returned (.bool (Rc.mayB row n f)) ∧ Below w.heap.size w w' := by
  have hPl := fun (W : World) (hW : Below w.heap.size w W) => placed12_any seq row (some ⟨b, off, none⟩) n cap f W hin (fun j hj => ⟨b, off, rfl, (hp j hj).below hW (hp j hj).lt⟩)
  have HP : Hid (∀ j, j < n → PartAt w b (off + j * 3) (f j)) := hp
  have HPl : Hid _ := hPl
  have hlen := hin.hlen
  clear hp hin hPl
  go_enter Try.func5, Try.ntmps5
  go_wp2
  go_loopg [8] n (fun gg i wr => ∃ k : Nat, k ≤ n ∧ gg = n - k ∧ i = .int .i64 (k : Int) ∧ Below (w.alloc (.cells #[.int .u64 seq, .int .i64 row, .slice (some ⟨b, off, none⟩) n cap] 26)).heap.size (w.alloc (.cells #[.int .u64 seq, .int .i64 row, .slice (some ⟨b, off, none⟩) n cap] 26)) wr ∧ Rc.fullTo f k = true)
  case atStart => exact ⟨0, Nat.zero_le _, rfl, rfl, Below.refl _ _, rfl⟩
  case round =>
  obtain ⟨k, hk, rfl, rfl, hb, hfu⟩ := hrel
  have HF : Hid (Rc.fullTo f k = true) := hfu
  have HB : Hid (Below (w.alloc (.cells #[.int .u64 seq, .int .i64 row, .slice (some ⟨b, off, none⟩) n cap] 26)).heap.size (w.alloc (.cells #[.int .u64 seq, .int .i64 row, .slice (some ⟨b, off, none⟩) n cap] 26)) wr) := hb
  have HBW : Hid (Below w.heap.size w wr) := box_below hb
  have d0 : wr.cell? ⟨w.heap.size, 0, none⟩ = some (.int .u64 seq) := box_cell hb 0
  have d1 : wr.cell? ⟨w.heap.size, 1, none⟩ = some (.int .i64 row) := box_cell hb 1
  have d2 : wr.cell? ⟨w.heap.size, 2, none⟩ = some (.slice (some ⟨b, off, none⟩) n cap) := box_cell hb 2
  have hszr := hb.size
  clear hfu hb
  by_cases hlt : k < n
  case neg =>
    have hkn : k = n := by omega
    subst hkn
    have hpl := HPl.out _ HBW.out
    clear hlt hk
    go_wp2_with fail
    refine Calls.mono hpl ?_
    rintro e w2 ⟨rfl, b2⟩
    have HB2 : Hid (Below w.heap.size w w2) := below2 HBW.out b2
    clear b2 hpl
    go_wp2
    go_ret
    refine ⟨?_, HB2.out⟩
    show Ending.returned (.bool (Rc.placesB row k f)) = _
    unfold Rc.mayB
    rw [HF.out, Bool.true_and]
  case pos =>
  have hki : (k : Int) < (n : Int) := by omega
  have hpk := (HP.out k hlt).below HBW.out (HP.out k hlt).lt
  have c0 := hpk.c0
  have c1 := hpk.c1
  have c2 := hpk.c2
  obtain ⟨x, hx⟩ : ∃ x, x = f k := ⟨_, rfl⟩
  rw [← hx] at c0 c1 c2
  have HS : Hid (x = f k) := hx
  obtain ⟨xc, xo, s⟩ := x
  dsimp only at c0 c1 c2
  have BX : Hid (Below w.heap.size w (wr.alloc (.cells #[.int .i64 xc, .int .i64 xo, .string s] 31))) := HBW.out.alloc HBW.out.size _
  have BR : Hid (Below (w.alloc (.cells #[.int .u64 seq, .int .i64 row, .slice (some ⟨b, off, none⟩) n cap] 26)).heap.size (w.alloc (.cells #[.int .u64 seq, .int .i64 row, .slice (some ⟨b, off, none⟩) n cap] 26)) (wr.alloc (.cells #[.int .i64 xc, .int .i64 xo, .string s] 31))) := HB.out.alloc hszr _
  clear hpk hx d0 d1 d2 hszr
  by_cases h64 : s.size = 64
  · have hne : ((s.size : Int) != 64) = false := by rw [bne_eq_false_iff_eq]; omega
    have HN : Hid (Rc.fullTo f (k + 1) = true) := by show _ = _; unfold Rc.fullTo; rw [HF.out, ← HS.out, h64]; rfl
    clear h64
    go_wp2
    go_roundg (n - (k + 1))
    case measure => omega
    case rel => exact ⟨k + 1, by omega, rfl, by go_num, BR.out, HN.out⟩
  · have hne : ((s.size : Int) != 64) = true := by rw [bne_iff_ne]; omega
    have HNo : Hid (Rc.mayB row n f = false) := by show _ = _; unfold Rc.mayB; rw [Rc.fullTo_not hlt (by rw [← HS.out]; exact h64)]; rfl
    clear h64
    go_wp2
    go_ret
    exact ⟨by rw [HNo.out]; rfl, BX.out⟩

set_option maxRecDepth 100000 in
set_option maxHeartbeats 2000000 in
theorem May12_nil (seq row : Int) (a : Option Addr) (cap : Nat) (f : Nat → Prt) (w : World) (hin : RecIn row 0 f) :
    Calls Try.prog 5 #[.agg #[.int .u64 seq, .int .i64 row, .slice a 0 cap]] w fun e w' => e = .returned (.bool (Rc.mayB row 0 f)) ∧ Below w.heap.size w w' := by
  have hPl := fun (W : World) => placed12_any seq row a 0 cap f W hin (PartsR.nil W a f)
  have HPl : Hid _ := hPl
  clear hPl
  go_enter Try.func5, Try.ntmps5
  go_wp2
  go_loopg [8] 0 (fun gg i wr => gg = 0 ∧ i = .int .i64 0 ∧ wr = w.alloc (.cells #[.int .u64 seq, .int .i64 row, .slice a 0 cap] 26))
  case atStart => exact ⟨rfl, rfl, rfl⟩
  case round =>
  obtain ⟨rfl, rfl, rfl⟩ := hrel
  have AB : Hid (Below w.heap.size w (w.alloc (.cells #[.int .u64 seq, .int .i64 row, .slice a 0 cap] 26))) := (Below.refl _ w).alloc (Nat.le_refl _) _
  go_wp2_with fail
  refine Calls.mono (HPl.out _) ?_
  rintro e w2 ⟨rfl, b2⟩
  go_wp2
  go_ret
  exact ⟨rfl, AB.out.trans (b2.mono AB.out.size)⟩

/-- the program's own May, of any record -/
theorem May12_any (seq row : Int) (a : Option Addr) (n cap : Nat) (f : Nat → Prt) (w : World) (hin : RecIn row n f) (hp : PartsR w a n f) :
    Calls Try.prog 5 #[.agg #[.int .u64 seq, .int .i64 row, .slice a n cap]] w fun e w' => e = .returned (.bool (Rc.mayB row n f)) ∧ Below w.heap.size w w' := by
  cases n with
  | zero => exact May12_nil seq row a cap f w hin
  | succ n =>
    obtain ⟨b, off, rfl, hp2⟩ := hp.head (Nat.succ_pos n)
    exact May12_some seq row b off (n + 1) cap f w hin hp2
end Go.Proofs.Ytmikllmpinciiaa
