/- The walk of the law RingFinds, over what is asked of the program's ring. -/
import Derived.Test.YtjmeiifogblmoaaGreatDoorMRiB
import Derived.Test.YtjmeiifogblmoaaGreatDoorRiFound
import Derived.Test.YtjmeiifogblmoaaGreatDoorRef12Same
namespace Go.Proofs.YtjmeiifogblmoaaGreatDoor
open Go.RowKit

/-- what was appended -/
def Wh (rows : Nat → Nat) (n : Nat) (l : Nat → ByteArray) (k : Nat) (R : Nat → Ri.Rcd) : Prop := ∀ m, 1 ≤ m → m ≤ k → R m = ⟨(rows (m - 1) : Int), Ri.someN n, Ri.someP l⟩
theorem Wh.step {rows : Nat → Nat} {n k x : Nat} {l : Nat → ByteArray} {R : Nat → Ri.Rcd} (h : Wh rows n l k R) (hx : x = rows k) : Wh rows n l (k + 1) (Ri.with1 R (k + 1) ⟨(x : Int), Ri.someN n, Ri.someP l⟩) := fun m h1 h2 => by
  by_cases e : m = k + 1
  · rw [e, Ri.with1_same, hx]; rfl
  · rw [Ri.with1_other R _ e]; exact h m h1 (by omega)
set_option maxRecDepth 100000 in
set_option maxHeartbeats 8000000 in
theorem finds13_main (X : RingSays) (ar : Option Addr) (nr capr : Nat) (rows : Nat → Nat) (a : Option Addr) (n cap : Nat) (l : Nat → ByteArray) (tr : Nat) (kp : Option Addr) (nk capk : Nat) (keep : List Nat) (w : World) (hrow : RowI .u8 w ar nr (fun j => (rows j : Int))) (h8 : ∀ j, rows j < 256) (hr : RowS w a n l) (htr : tr < 256)
    (hnk : keep.length = nk) (hkeep : RowI .u8 w kp nk (fun j => ((keep.getD j 0 : Nat) : Int))) (hk8 : ∀ j, keep.getD j 0 < 256) (hl : Ri.Light13 n l) (n1 : 1 ≤ n) (n30 : nr ≤ 30) (nk50 : nk ≤ 50)
    (hh : ∀ W, Below w.heap.size w W → Calls Tryz.prog 36 #[.slice a n cap] W fun e w' => w' = W ∧ e = .returned (.bool false)) :
    Calls Tryz.prog 4 #[.slice ar nr capr, .slice a n cap, .int .u8 (tr : Int), .slice kp nk capk] w fun e w' => e = .returned (.bool true) ∧ Below w.heap.size w w' := by
  have hsh := fun W => shown13_any X W
  have HSo : Hid (∀ W, Below w.heap.size w W → Calls Tryz.prog 27 #[.slice a n cap] W fun e w' => ∃ a' c', e = .returned (.slice a' (Ri.someN n) c') ∧ PartsR w' a' (Ri.someN n) (Ri.someP l) ∧ (∀ x, a' = some x → W.heap.size ≤ x.block) ∧ Below W.heap.size W w') := fun W hW => some13_any a n cap l W hl (hr.below hW)
  have HRow : Hid (RowI .u8 w ar nr (fun j => (rows j : Int))) := hrow
  have H8 : Hid (∀ j, rows j < 256) := h8
  have HCr : Hid (∀ W dp D, Below w.heap.size w W → Mine W w.heap.size dp D → (∀ i, D.writes i = []) → Calls Tryz.prog 18 #[.pointer (some ⟨dp, 0, none⟩), .slice kp nk capk] W fun e w' => e = .returned (.tuple #[]) ∧ Mine w' w.heap.size dp (D.crash keep) ∧ Below w.heap.size W w') := fun W dp D hW hm hn => by
    have := crash_mine hm (fun i => by rw [hn i]; exact Nat.zero_le _) keep kp capk (by rw [hnk]; exact hkeep.below hW) (by unfold maxLen; omega) hk8 (fun h0 x hx => by
      obtain ⟨b, o, e, hc⟩ := hkeep 0 (by omega)
      rw [e] at hx
      injection hx with hx
      rw [← hx]
      exact World.block_lt_of_cell? w _ hc)
    rw [hnk] at this
    exact this
  have HL : Hid (∀ row : Nat, row < 256 → Rc.mayB (row : Int) (Ri.someN n) (Ri.someP l) = true ∧ RecIn (row : Int) (Ri.someN n) (Ri.someP l)) := fun row hr => ⟨Ri.someP_may hr n1 l, Ri.someP_in (by omega) n l⟩
  have HLi : Hid (RecLight (Ri.someN n) (Ri.someP l)) := Ri.someP_light n l
  obtain ⟨y, hy⟩ : ∃ y, y = tr % 5 := ⟨_, rfl⟩
  have hm1 : (tr : Int).tmod 5 = (y : Int) := by rw [Int.tmod_eq_emod_of_nonneg (by omega)]; omega
  have hm2 : (tr : Int) % 5 = (y : Int) := by omega
  have hy5 : y < 5 := by omega
  have HNew : Hid (∀ (W : World), w.heap.size ≤ W.heap.size → Calls Tryz.prog 10 #[.int .i64 209] W fun e w' => ∃ p, e = .returned (.pointer (some ⟨p, 0, none⟩)) ∧ Mine w' w.heap.size p (Dr.fresh 209) ∧ Below w.heap.size W w') := fun W h => new_mine 209 w.heap.size (by decide) (by decide) W h
  have HHh : Hid _ := hh
  have hn0 : ((n : Int) == 0) = false := by rw [beq_eq_false_iff_ne]; omega
  have hn5' : decide ((30 : Int) < (nr : Int)) = false := by simp; omega
  have hn6' : decide ((50 : Int) < (nk : Int)) = false := by simp; omega
  clear hrow h8 hr hl n1 hh hkeep hk8 hy hnk
  go_enter Tryz.func4, Tryz.ntmps4
  go_wp2_with fail
  refine (HHh.out _ (Below.refl _ _)).mono ?_
  rintro e w1 ⟨rfl, rfl⟩
  go_wp2_with fail
  refine (hsh _).mono ?_
  rintro e w2 ⟨rfl, hb2⟩
  have HB2 : Hid (Below w1.heap.size w1 w2) := hb2
  clear hb2
  go_wp2_with fail
  refine (HNew.out _ HB2.out.size).mono ?_
  rintro e w3 ⟨dp, rfl, hm3, hb3⟩
  have HM3 : Hid (Mine w3 w1.heap.size dp (Dr.fresh 209)) := hm3
  have HB3 : Hid (Below w1.heap.size w1 w3) := HB2.out.trans hb3
  clear hm3 hb3
  go_wp2_with fail
  refine (format_jn (N := 5) X HM3.out (Dr.Calm.fresh 209) (by decide) noR).mono ?_
  rintro e w4 ⟨rfl, ⟨D4, hm4, hj4⟩, hb4⟩
  have HM4 : Hid (Mine w4 w1.heap.size dp D4 ∧ Ri.Jn D4 5 0 0 noR) := ⟨hm4, hj4⟩
  have HB4 : Hid (Below w1.heap.size w1 w4) := HB3.out.trans hb4
  clear hm4 hj4 hb4
  go_wp2_with fail
  refine (opens_jn X HM4.out.1 HM4.out.2).mono ?_
  rintro e w5 ⟨rp, ax, cx, rfl, hm5, _, hb5⟩
  have HM5 : Hid (RJn X w5 w1.heap.size rp dp 5 0 0 noR) := hm5
  have HB5 : Hid (Below w1.heap.size w1 w5) := HB4.out.trans hb5
  clear hm5 hb5
  go_wp2
  go_loopg [13, 14] nr (fun gg u13 i wr => ∃ (k t : Nat) (R : Nat → Ri.Rcd), k ≤ nr ∧ t ≤ k ∧ gg = nr - k ∧ u13 = .int .i64 (t : Int) ∧ i = .int .i64 (k : Int) ∧ RJn X wr w1.heap.size rp dp 5 k t R ∧ Wh rows n l k R ∧ Below w1.heap.size w1 wr)
  case atStart => exact ⟨0, 0, _, Nat.zero_le _, Nat.zero_le _, rfl, rfl, rfl, HM5.out, fun m h1 h2 => by omega, HB5.out⟩
  case round =>
  obtain ⟨k, t, R, hk, htk, rfl, rfl, rfl, hrj, hwh, hb⟩ := hrel
  have HRj : Hid (RJn X wr w1.heap.size rp dp 5 k t R) := hrj
  have HWh : Hid (Wh rows n l k R) := hwh
  have HB : Hid (Below w1.heap.size w1 wr) := hb
  have hnear := hrj.facts.2.2.2
  clear hrj hb hwh
  by_cases hlt : k < nr
  case pos =>
    have HLt : Hid (k < nr ∧ nr ≤ 30) := ⟨hlt, n30⟩
    have hlf := HRj.out.left (by decide)
    by_cases hfull : k = t + 5
    · rw [show ((5 : Nat) : Int) - ((k - t : Nat) : Int) = 0 by omega] at hlf
      have hki0 : (k : Int) < (nr : Int) := by omega
      obtain ⟨tt, htt⟩ : ∃ tt, tt = min (t + 1 + y) k := ⟨_, rfl⟩
      have HT1 : Hid (t ≤ tt ∧ tt ≤ k) := ⟨by omega, by omega⟩
      have HTk : Hid (tt ≤ k) := HT1.out.2
      have HRoom : Hid (k < tt + 5) := by have := HT1.out; show _ < _; omega
      have hmin : min ((t : Int) + 1 + (y : Int)) (k : Int) = (tt : Int) := by omega
      have hw1 : IntKind.u64.wrap (tt : Int) = (tt : Int) := by rw [IntKind.wrap_u64]; omega
      have hk30 : (k : Int) < 30 := by omega
      clear hfull htt hnear
      go_wp2_with fail
      refine hlf.mono ?_
      rintro e w6 ⟨rfl, hr6, hb6⟩
      have HR6 : Hid (RJn X w6 w1.heap.size rp dp 5 k t R) := hr6
      have HB6 : Hid (Below w1.heap.size w1 w6) := HB.out.trans hb6
      have htm := HR6.out.trim (q := tt) (by decide) HT1.out.1 HT1.out.2
      clear hr6 hb6 hlf
      go_wp2_with fail
      refine htm.mono ?_
      rintro e w8 ⟨rfl, hr8, hb8⟩
      have HR8 : Hid (RJn X w8 w1.heap.size rp dp 5 k tt R) := hr8
      have HB8 : Hid (Below w1.heap.size w1 w8) := HB6.out.trans hb8
      clear hr8 hb8 htm
      obtain ⟨rb, ro, rfl, hc⟩ := HRow.out k hlt
      dsimp only at hc
      have h8 := H8.out k
      obtain ⟨hM, hI⟩ := HL.out _ h8
      obtain ⟨x, hx⟩ : ∃ x, x = rows k := ⟨_, rfl⟩
      have HXr : Hid (x = rows k) := hx
      rw [← hx] at hM hI hc h8
      have HC : Hid (w1.cell? ⟨rb, ro + k, none⟩ = some (.int .u8 (x : Int))) := hc
      have HLb : Hid (rb < w1.heap.size) := World.block_lt_of_cell? w1 _ hc
      have HAp : Hid (∀ W a' c', Below w8.drew.heap.size w8.drew W → PartsR W a' (Ri.someN n) (Ri.someP l) → (∀ z, a' = some z → w8.drew.heap.size ≤ z.block) → Calls Tryz.prog 28 #[.pointer (some ⟨rp, 0, none⟩), .int .i64 (x : Int), .slice a' (Ri.someN n) c'] W fun e w' => e = .returned (.tuple #[.int .u64 ((k + 1 : Nat) : Int), .int .i64 0]) ∧ RJn X w' w1.heap.size rp dp 5 (k + 1) tt (Ri.with1 R (k + 1) ⟨(x : Int), Ri.someN n, Ri.someP l⟩) ∧ Below w1.heap.size W w') := fun W a' c' hb hp ha =>
        (HR8.out.below (Below.refl _ _).drew).append (cap := c') hb (by decide) (by have := HLt.out; omega) (by have := HRoom.out; omega) hM hI HLi.out hp (fun z hz => .inr (ha z hz))
      have hx1 : IntKind.i64.wrap (x : Int) = (x : Int) := by rw [IntKind.wrap_i64]; omega
      have hki : (k : Int) < (nr : Int) := by omega
      have s0 : w8.drew.cell? ⟨rb, ro + k, none⟩ = some (.int .u8 (x : Int)) := (HB8.out.cell (p := ⟨rb, ro + k, none⟩) HLb.out).trans hc
      have b0 : Below w1.heap.size w1 w8.drew := HB8.out.drew
      clear hc hM hI hx
      go_wp2
      go_region_held3 (fun W => W.cell? ⟨rb, ro + k, none⟩ = some (.int .u8 (x : Int))) (first | exact s0 | assumption) (first | (go_at_call 27; refine (HSo.out _ (by assumption)).mono ?_; rintro e w6 ⟨a6, c6, rfl, hp6, hn6, hb6⟩; have s6 := keep_at (p := ⟨rb, ro + k, none⟩) hb6 (by assumption)) | (go_at_call 28; refine (HAp.out _ _ _ (by assumption) (by assumption) (by assumption)).mono ?_; rintro e w7 ⟨rfl, hr7, hb7⟩; have s7 := (hb7.cell (p := ⟨rb, ro + k, none⟩) HLb.out).trans (by assumption)))
      have HR7 : Hid (RJn X w7 w1.heap.size rp dp 5 (k + 1) tt (Ri.with1 R (k + 1) ⟨(x : Int), Ri.someN n, Ri.someP l⟩)) := hr7
      have HB7 : Hid (Below w1.heap.size w1 w7) := (b0.trans (hb6.mono b0.size)).trans hb7
      have hkw : IntKind.u64.wrap (k : Int) = (k : Int) := by rw [IntKind.wrap_u64]; omega
      clear hr7 hb7 s7 s6 hb6 hp6 hn6 b0 s0
      go_wp2
      go_roundg (nr - (k + 1))
      case measure => omega
      case rel => exact ⟨k + 1, tt, _, by omega, by have := HTk.out; omega, rfl, rfl, by go_num, HR7.out, HWh.out.step HXr.out, HB7.out⟩
    · obtain ⟨v, hv⟩ : ∃ v : Int, v = ((5 : Nat) : Int) - ((k - t : Nat) : Int) := ⟨_, rfl⟩
      rw [← hv] at hlf
      have hv0 : (v == 0) = false := by rw [beq_eq_false_iff_ne]; omega
      have hki0 : (k : Int) < (nr : Int) := by omega
      have HTk : Hid (t ≤ k) := htk
      have HRoom : Hid (k < t + 5) := by show _ < _; omega
      clear hv hfull hnear
      go_wp2_with fail
      refine hlf.mono ?_
      rintro e w8 ⟨rfl, hr8, hb8⟩
      have HR8 : Hid (RJn X w8 w1.heap.size rp dp 5 k t R) := hr8
      have HB8 : Hid (Below w1.heap.size w1 w8) := HB.out.trans hb8
      clear hr8 hb8 hlf
      obtain ⟨rb, ro, rfl, hc⟩ := HRow.out k hlt
      dsimp only at hc
      have h8 := H8.out k
      obtain ⟨hM, hI⟩ := HL.out _ h8
      obtain ⟨x, hx⟩ : ∃ x, x = rows k := ⟨_, rfl⟩
      have HXr : Hid (x = rows k) := hx
      rw [← hx] at hM hI hc h8
      have HC : Hid (w1.cell? ⟨rb, ro + k, none⟩ = some (.int .u8 (x : Int))) := hc
      have HLb : Hid (rb < w1.heap.size) := World.block_lt_of_cell? w1 _ hc
      have HAp : Hid (∀ W a' c', Below w8.drew.heap.size w8.drew W → PartsR W a' (Ri.someN n) (Ri.someP l) → (∀ z, a' = some z → w8.drew.heap.size ≤ z.block) → Calls Tryz.prog 28 #[.pointer (some ⟨rp, 0, none⟩), .int .i64 (x : Int), .slice a' (Ri.someN n) c'] W fun e w' => e = .returned (.tuple #[.int .u64 ((k + 1 : Nat) : Int), .int .i64 0]) ∧ RJn X w' w1.heap.size rp dp 5 (k + 1) t (Ri.with1 R (k + 1) ⟨(x : Int), Ri.someN n, Ri.someP l⟩) ∧ Below w1.heap.size W w') := fun W a' c' hb hp ha =>
        (HR8.out.below (Below.refl _ _).drew).append (cap := c') hb (by decide) (by have := HLt.out; omega) (by have := HRoom.out; omega) hM hI HLi.out hp (fun z hz => .inr (ha z hz))
      have hx1 : IntKind.i64.wrap (x : Int) = (x : Int) := by rw [IntKind.wrap_i64]; omega
      have hki : (k : Int) < (nr : Int) := by omega
      have s0 : w8.drew.cell? ⟨rb, ro + k, none⟩ = some (.int .u8 (x : Int)) := (HB8.out.cell (p := ⟨rb, ro + k, none⟩) HLb.out).trans hc
      have b0 : Below w1.heap.size w1 w8.drew := HB8.out.drew
      clear hc hM hI hx
      go_wp2
      go_region_held3 (fun W => W.cell? ⟨rb, ro + k, none⟩ = some (.int .u8 (x : Int))) (first | exact s0 | assumption) (first | (go_at_call 27; refine (HSo.out _ (by assumption)).mono ?_; rintro e w6 ⟨a6, c6, rfl, hp6, hn6, hb6⟩; have s6 := keep_at (p := ⟨rb, ro + k, none⟩) hb6 (by assumption)) | (go_at_call 28; refine (HAp.out _ _ _ (by assumption) (by assumption) (by assumption)).mono ?_; rintro e w7 ⟨rfl, hr7, hb7⟩; have s7 := (hb7.cell (p := ⟨rb, ro + k, none⟩) HLb.out).trans (by assumption)))
      have HR7 : Hid (RJn X w7 w1.heap.size rp dp 5 (k + 1) t (Ri.with1 R (k + 1) ⟨(x : Int), Ri.someN n, Ri.someP l⟩)) := hr7
      have HB7 : Hid (Below w1.heap.size w1 w7) := (b0.trans (hb6.mono b0.size)).trans hb7
      have hkw : IntKind.u64.wrap (k : Int) = (k : Int) := by rw [IntKind.wrap_u64]; omega
      clear hr7 hb7 s7 s6 hb6 hp6 hn6 b0 s0
      go_wp2
      go_roundg (nr - (k + 1))
      case measure => omega
      case rel => exact ⟨k + 1, t, _, by omega, by have := HTk.out; omega, rfl, rfl, by go_num, HR7.out, HWh.out.step HXr.out, HB7.out⟩
  case neg =>
    have hkn : k = nr := by omega
    subst hkn
    obtain ⟨D6, hm6, hj6⟩ := HRj.out.drive
    have HM6 : Hid (Mine wr w1.heap.size dp D6 ∧ Ri.Jn D6 5 k t R) := ⟨hm6, hj6⟩
    obtain ⟨c, hc⟩ : ∃ c, c = k - t := ⟨_, rfl⟩
    have hc1 : (k : Int) - (t : Int) = (c : Int) := by omega
    have HC : Hid (c = k - t ∧ t ≤ k ∧ k ≤ 30) := ⟨hc, htk, n30⟩
    clear hm6 hj6 hlt hk hnear hc
    go_wp2_with fail
    refine (HCr.out _ _ _ HB.out HM6.out.1 HM6.out.2.calm.none).mono ?_
    rintro e w7 ⟨rfl, hm7, hb7⟩
    have HM7 : Hid (Mine w7 w1.heap.size dp (D6.crash keep) ∧ Ri.Jn (D6.crash keep) 5 k t R) := ⟨hm7, HM6.out.2.crash keep⟩
    have HB7 : Hid (Below w1.heap.size w1 w7) := HB.out.trans hb7
    clear hm7 hb7
    have hop := opens_jn X HM7.out.1 HM7.out.2
    rw [← HC.out.1] at hop
    go_wp2_with fail
    refine hop.mono ?_
    rintro e w8 ⟨rp8, a8, c8, rfl, hr8, hrec, hb8⟩
    have HR8 : Hid (RJn X w8 w1.heap.size rp8 dp 5 k t R) := hr8
    have HRec : Hid (RecsR w8 a8 c (fun j => Ri.recT (D6.crash keep) (t + (j + 1)))) := hrec
    have HB8 : Hid (Below w1.heap.size w1 w8) := HB7.out.trans hb8
    clear hr8 hrec hb8 hop
    have hmx : Tryz.prog.follows .mixedOrders = true := by kernel_rfl
    have HMX : Hid (Tryz.prog.follows .mixedOrders = true) := hmx
    have hkw : IntKind.u64.wrap (k : Int) = (k : Int) := by rw [IntKind.wrap_u64]; omega
    clear hmx
    go_wp2
    go_loopg [20] c (fun gg i wr => ∃ j : Nat, j ≤ c ∧ gg = c - j ∧ i = .int .i64 (j : Int) ∧ Below w8.heap.size w8 wr)
    case atStart => exact ⟨0, Nat.zero_le _, rfl, rfl, Below.refl _ _⟩
    case round =>
    obtain ⟨j, hj, rfl, rfl, hb⟩ := hrel
    have HB : Hid (Below w8.heap.size w8 wr) := hb
    have HBW : Hid (Below w1.heap.size w1 wr) := below2 HB8.out hb
    by_cases hlt : j < c
    case neg =>
      have hkn : j = c := by omega
      have hji : ¬ (j : Int) < (c : Int) := by omega
      have hnx := (HR8.out.below hb).next
      clear hlt hj hb hkn
      go_wp2_with fail
      refine hnx.mono ?_
      rintro e w9 ⟨rfl, _, hb9⟩
      have HB9 : Hid (Below w1.heap.size w1 w9) := HBW.out.trans hb9
      clear hb9 hnx
      go_wp2
      go_ret
      exact ⟨rfl, HB9.out⟩
    case pos =>
    have hji : (j : Int) < (c : Int) := by omega
    obtain ⟨bL, oL, ap, cp, rfl, c0, c1, c2, hpp⟩ := (HRec.out.below hb) j hlt
    have hq0 : t + j < k := by have := HC.out; omega
    obtain ⟨rb, ro, rfl, hrc⟩ := HRow.out (t + j) hq0
    dsimp only at hrc
    have hrw := (HBW.out.cell (p := ⟨rb, ro + (t + j), none⟩) (World.block_lt_of_cell? w1 _ hrc)).trans hrc
    obtain ⟨f1, f2, f3⟩ := Ri.Jn.found HM7.out.2 (m := t + (j + 1)) (by omega) (by omega)
    rw [HWh.out (t + (j + 1)) (by omega) (by omega)] at f1 f2 f3
    dsimp only [Ri.recT] at c0 c1 c2 hpp f1 f2 f3
    rw [f1] at c1
    rw [f2] at c2 hpp
    have hpp2 : PartsR wr ap (Ri.someN n) (Ri.someP l) := hpp.congr f3
    have h8 := H8.out (t + j)
    rw [show t + (j + 1) - 1 = t + j by omega] at c1
    obtain ⟨x, hx⟩ : ∃ x, x = rows (t + j) := ⟨_, rfl⟩
    rw [← hx] at c1 hrw h8
    obtain ⟨q, hq⟩ : ∃ q, q = t + j := ⟨_, rfl⟩
    rw [show ro + (t + j) = ro + q by rw [hq]] at hrw
    obtain ⟨m, hmm⟩ : ∃ m, m = t + (j + 1) := ⟨_, rfl⟩
    rw [← hmm] at c0
    have hq1 : (t : Int) + (j : Int) = (q : Int) := by omega
    have hqk : (q : Int) < (k : Int) := by omega
    have hq2 : IntKind.i64.wrap (q : Int) = (q : Int) := by rw [IntKind.wrap_i64]; omega
    have hq3 : IntKind.u64.wrap (q : Int) = (q : Int) := by rw [IntKind.wrap_u64]; omega
    have hq4 : (q : Int) + 1 = (m : Int) := by omega
    have hq5 : IntKind.u64.wrap (m : Int) = (m : Int) := by rw [IntKind.wrap_u64]; omega
    have hx1 : IntKind.i64.wrap (x : Int) = (x : Int) := by rw [IntKind.wrap_i64]; omega
    have HPp : Hid (∀ W, Below wr.heap.size wr W → PartsR W ap (Ri.someN n) (Ri.someP l)) := fun W hW => hpp2.below hW
    have h8n : Ri.someN n ≤ 8 := Nat.min_le_right _ _
    have HTh : Hid (∀ W a' c', PartsR W a' (Ri.someN n) (Ri.someP l) → Calls Tryz.prog 30 #[.slice a' (Ri.someN n) c'] W fun e w' => ∃ a2 c2, e = .returned (.slice a2 (Ri.someN n) c2) ∧ PartsR w' a2 (Ri.someN n) (Ri.someP l) ∧ Below W.heap.size W w') := fun W a' c' hp => theirs13_any a' (Ri.someN n) c' (Ri.someP l) W (by omega) hp
    have HSm : Hid (∀ W a' c' a2 c2, PartsR W a' (Ri.someN n) (Ri.someP l) → PartsR W a2 (Ri.someN n) (Ri.someP l) → Calls Tryz.prog 37 #[.agg #[.int .u64 0, .int .i64 0, .slice a' (Ri.someN n) c'], .agg #[.int .u64 0, .int .i64 0, .slice a2 (Ri.someN n) c2]] W fun e w' => e = .returned (.bool true) ∧ Below W.heap.size W w') := fun W a' c' a2 c2 h1 h2 => by
      have := rSame12_any 0 0 (Ri.someN n) (Ri.someN n) c' c2 0 0 a' a2 (Ri.someP l) (Ri.someP l) W (by omega) h1 h2
      rw [(Rc.sameR_iff _ _ _ _ _ _ _ _).2 ⟨rfl, rfl, rfl, fun _ _ => rfl⟩] at this
      exact this
    have HKeep : Hid (∀ W, Below wr.heap.size wr W → W.cell? ⟨bL, oL + j * 3, none⟩ = some (.int .u64 (m : Int)) ∧ W.cell? ⟨bL, oL + j * 3 + 1, none⟩ = some (.int .i64 (x : Int)) ∧ W.cell? ⟨bL, oL + j * 3 + 2, none⟩ = some (.slice ap (Ri.someN n) cp) ∧ W.cell? ⟨rb, ro + q, none⟩ = some (.int .u8 (x : Int))) := fun W hW =>
      ⟨(hW.cell (p := ⟨bL, oL + j * 3, none⟩) (World.block_lt_of_cell? wr _ c0)).trans c0, (hW.cell (p := ⟨bL, oL + j * 3 + 1, none⟩) (World.block_lt_of_cell? wr _ c1)).trans c1, (hW.cell (p := ⟨bL, oL + j * 3 + 2, none⟩) (World.block_lt_of_cell? wr _ c2)).trans c2, (hW.cell (p := ⟨rb, ro + q, none⟩) (World.block_lt_of_cell? wr _ hrw)).trans hrw⟩
    clear hpp hpp2 f1 f2 f3 hb hx hq hmm hrc c0 c1 c2 hrw hq0 h8n
    go_upto_region 27 with fail
    have hS : (fun W : World => W.cell? ⟨bL, oL + j * 3, none⟩ = some (.int .u64 (m : Int)) ∧ W.cell? ⟨bL, oL + j * 3 + 1, none⟩ = some (.int .i64 (x : Int)) ∧ W.cell? ⟨bL, oL + j * 3 + 2, none⟩ = some (.slice ap (Ri.someN n) cp) ∧ W.cell? ⟨rb, ro + q, none⟩ = some (.int .u8 (x : Int))) wr.drew := HKeep.out _ (Below.refl _ _).drew
    refine wp_region_held (S := (fun W : World => W.cell? ⟨bL, oL + j * 3, none⟩ = some (.int .u64 (m : Int)) ∧ W.cell? ⟨bL, oL + j * 3 + 1, none⟩ = some (.int .i64 (x : Int)) ∧ W.cell? ⟨bL, oL + j * 3 + 2, none⟩ = some (.slice ap (Ri.someN n) cp) ∧ W.cell? ⟨rb, ro + q, none⟩ = some (.int .u8 (x : Int)))) HMX.out ?_
    change wpAnyH _ _ _ _ _ _ _ _ wr.drew
    refine held_quiet 0 (v := ?v0q1) rfl (by kernel_rfl) (fun _ _ _ h => h) (by assumption) rfl ?hy0q1 ?rest0q1
    case hy0q1 => (intro wS hSw; (try dsimp only at hSw); go_simp; try with_reducible rfl)
    try simp only [Act.put, List.setIfInBounds_toArray, List.set_cons_zero, List.set_cons_succ]
    refine held_quiet 1 (v := ?v1q2) rfl (by kernel_rfl) (fun _ _ _ h => h) (by assumption) rfl ?hy1q2 ?rest1q2
    case hy1q2 => (intro wS hSw; (try dsimp only at hSw); go_simp; try with_reducible rfl)
    try simp only [Act.put, List.setIfInBounds_toArray, List.set_cons_zero, List.set_cons_succ]
    refine held_quiet 2 (v := ?v2q3) rfl (by kernel_rfl) (fun _ _ _ h => h) (by assumption) rfl ?hy2q3 ?rest2q3
    case hy2q3 => (intro wS hSw; (try dsimp only at hSw); go_simp; try with_reducible rfl)
    try simp only [Act.put, List.setIfInBounds_toArray, List.set_cons_zero, List.set_cons_succ]
    refine held_quiet 3 (v := ?v3q4) rfl (by kernel_rfl) (fun _ _ _ h => h) (by assumption) rfl ?hy3q4 ?rest3q4
    case hy3q4 => (intro wS hSw; (try dsimp only at hSw); go_simp; try with_reducible rfl)
    try simp only [Act.put, List.setIfInBounds_toArray, List.set_cons_zero, List.set_cons_succ]
    refine held_quiet 4 (v := ?v4q5) rfl (by kernel_rfl) (fun _ _ _ h => h) (by assumption) rfl ?hy4q5 ?rest4q5
    case hy4q5 => (intro wS hSw; (try dsimp only at hSw); go_simp; try with_reducible rfl)
    try simp only [Act.put, List.setIfInBounds_toArray, List.set_cons_zero, List.set_cons_succ]
    refine held_quiet 5 (v := ?v5q6) rfl (by kernel_rfl) (fun _ _ _ h => h) (by assumption) rfl ?hy5q6 ?rest5q6
    case hy5q6 => (intro wS hSw; (try dsimp only at hSw); go_simp; try with_reducible rfl)
    try simp only [Act.put, List.setIfInBounds_toArray, List.set_cons_zero, List.set_cons_succ]
    refine held_quiet 6 (v := ?v6q7) rfl (by kernel_rfl) (fun _ _ _ h => h) (by assumption) rfl ?hy6q7 ?rest6q7
    case hy6q7 => (intro wS hSw; (try dsimp only at hSw); go_simp; try with_reducible rfl)
    try simp only [Act.put, List.setIfInBounds_toArray, List.set_cons_zero, List.set_cons_succ]
    refine held_quiet 7 (v := ?v7q8) rfl (by kernel_rfl) (fun _ _ _ h => h) (by assumption) rfl ?hy7q8 ?rest7q8
    case hy7q8 => (intro wS hSw; (try dsimp only at hSw); go_simp; try with_reducible rfl)
    try simp only [Act.put, List.setIfInBounds_toArray, List.set_cons_zero, List.set_cons_succ]
    refine held_quiet 8 (v := ?v8q9) rfl (by kernel_rfl) (fun _ _ _ h => h) (by assumption) rfl ?hy8q9 ?rest8q9
    case hy8q9 => (intro wS hSw; (try dsimp only at hSw); go_simp; try with_reducible rfl)
    try simp only [Act.put, List.setIfInBounds_toArray, List.set_cons_zero, List.set_cons_succ]
    refine held_quiet 9 (v := ?v9q10) rfl (by kernel_rfl) (fun _ _ _ h => h) (by assumption) rfl ?hy9q10 ?rest9q10
    case hy9q10 => (intro wS hSw; (try dsimp only at hSw); go_simp; try with_reducible rfl)
    try simp only [Act.put, List.setIfInBounds_toArray, List.set_cons_zero, List.set_cons_succ]
    refine held_quiet 10 (v := ?v10q11) rfl (by kernel_rfl) (fun _ _ _ h => h) (by assumption) rfl ?hy10q11 ?rest10q11
    case hy10q11 => (intro wS hSw; (try dsimp only at hSw); go_simp; try with_reducible rfl)
    try simp only [Act.put, List.setIfInBounds_toArray, List.set_cons_zero, List.set_cons_succ]
    refine held_quiet 11 (v := ?v11q12) rfl (by kernel_rfl) (fun _ _ _ h => h) (by assumption) rfl ?hy11q12 ?rest11q12
    case hy11q12 => (intro wS hSw; (try dsimp only at hSw); go_simp; try with_reducible rfl)
    try simp only [Act.put, List.setIfInBounds_toArray, List.set_cons_zero, List.set_cons_succ]
    refine held_quiet 12 (v := ?v12q13) rfl (by kernel_rfl) (fun _ _ _ h => h) (by assumption) rfl ?hy12q13 ?rest12q13
    case hy12q13 => (intro wS hSw; (try dsimp only at hSw); go_simp; try with_reducible rfl)
    try simp only [Act.put, List.setIfInBounds_toArray, List.set_cons_zero, List.set_cons_succ]
    refine held_quiet 13 (v := ?v13q14) rfl (by kernel_rfl) (fun _ _ _ h => h) (by assumption) rfl ?hy13q14 ?rest13q14
    case hy13q14 => (intro wS hSw; (try dsimp only at hSw); go_simp; try with_reducible rfl)
    try simp only [Act.put, List.setIfInBounds_toArray, List.set_cons_zero, List.set_cons_succ]
    refine held_quiet 14 (v := ?v14q15) rfl (by kernel_rfl) (fun _ _ _ h => h) (by assumption) rfl ?hy14q15 ?rest14q15
    case hy14q15 => (intro wS hSw; (try dsimp only at hSw); go_simp; try with_reducible rfl)
    try simp only [Act.put, List.setIfInBounds_toArray, List.set_cons_zero, List.set_cons_succ]
    refine held_quiet 15 (v := ?v15q16) rfl (by kernel_rfl) (fun _ _ _ h => h) (by assumption) rfl ?hy15q16 ?rest15q16
    case hy15q16 => (intro wS hSw; (try dsimp only at hSw); go_simp; try with_reducible rfl)
    try simp only [Act.put, List.setIfInBounds_toArray, List.set_cons_zero, List.set_cons_succ]
    refine held_quiet 16 (v := ?v16q17) rfl (by kernel_rfl) (fun _ _ _ h => h) (by assumption) rfl ?hy16q17 ?rest16q17
    case hy16q17 => (intro wS hSw; (try dsimp only at hSw); go_simp; try with_reducible rfl)
    try simp only [Act.put, List.setIfInBounds_toArray, List.set_cons_zero, List.set_cons_succ]
    refine held_quiet 17 (v := ?v17q18) rfl (by kernel_rfl) (fun _ _ _ h => h) (by assumption) rfl ?hy17q18 ?rest17q18
    case hy17q18 => (intro wS hSw; (try dsimp only at hSw); go_simp; try with_reducible rfl)
    try simp only [Act.put, List.setIfInBounds_toArray, List.set_cons_zero, List.set_cons_succ]
    refine held_quiet 18 (v := ?v18q19) rfl (by kernel_rfl) (fun _ _ _ h => h) (by assumption) rfl ?hy18q19 ?rest18q19
    case hy18q19 => (intro wS hSw; (try dsimp only at hSw); go_simp; try with_reducible rfl)
    try simp only [Act.put, List.setIfInBounds_toArray, List.set_cons_zero, List.set_cons_succ]
    refine held_quiet 19 (v := ?v19q20) rfl (by kernel_rfl) (fun _ _ _ h => h) (by assumption) rfl ?hy19q20 ?rest19q20
    case hy19q20 => (intro wS hSw; (try dsimp only at hSw); go_simp; try with_reducible rfl)
    try simp only [Act.put, List.setIfInBounds_toArray, List.set_cons_zero, List.set_cons_succ]
    refine held_quiet 20 (v := ?v20q21) rfl (by kernel_rfl) (fun _ _ _ h => h) (by assumption) rfl ?hy20q21 ?rest20q21
    case hy20q21 => (intro wS hSw; (try dsimp only at hSw); go_simp; try with_reducible rfl)
    try simp only [Act.put, List.setIfInBounds_toArray, List.set_cons_zero, List.set_cons_succ]
    refine held_quiet 21 (v := ?v21q22) rfl (by kernel_rfl) (fun _ _ _ h => h) (by assumption) rfl ?hy21q22 ?rest21q22
    case hy21q22 => (intro wS hSw; (try dsimp only at hSw); go_simp; try with_reducible rfl)
    try simp only [Act.put, List.setIfInBounds_toArray, List.set_cons_zero, List.set_cons_succ]
    refine held_quiet 22 (v := ?v22q23) rfl (by kernel_rfl) (fun _ _ _ h => h) (by assumption) rfl ?hy22q23 ?rest22q23
    case hy22q23 => (intro wS hSw; (try dsimp only at hSw); go_simp; try with_reducible rfl)
    try simp only [Act.put, List.setIfInBounds_toArray, List.set_cons_zero, List.set_cons_succ]
    refine held_quiet 23 (v := ?v23q24) rfl (by kernel_rfl) (fun _ _ _ h => h) (by assumption) rfl ?hy23q24 ?rest23q24
    case hy23q24 => (intro wS hSw; (try dsimp only at hSw); go_simp; try with_reducible rfl)
    try simp only [Act.put, List.setIfInBounds_toArray, List.set_cons_zero, List.set_cons_succ]
    refine held_quiet 24 (v := ?v24q25) rfl (by kernel_rfl) (fun _ _ _ h => h) (by assumption) rfl ?hy24q25 ?rest24q25
    case hy24q25 => (intro wS hSw; (try dsimp only at hSw); go_simp; try with_reducible rfl)
    try simp only [Act.put, List.setIfInBounds_toArray, List.set_cons_zero, List.set_cons_succ]
    refine held_quiet 25 (v := ?v25q26) rfl (by kernel_rfl) (fun _ _ _ h => h) (by assumption) rfl ?hy25q26 ?rest25q26
    case hy25q26 => (intro wS hSw; (try dsimp only at hSw); go_simp; try with_reducible rfl)
    try simp only [Act.put, List.setIfInBounds_toArray, List.set_cons_zero, List.set_cons_succ]
    refine held_quiet 26 (v := ?v26q27) rfl (by kernel_rfl) (fun _ _ _ h => h) (by assumption) rfl ?hy26q27 ?rest26q27
    case hy26q27 => (intro wS hSw; (try dsimp only at hSw); go_simp; try with_reducible rfl)
    try simp only [Act.put, List.setIfInBounds_toArray, List.set_cons_zero, List.set_cons_succ]
    refine held_quiet 27 (v := ?v27q28) rfl (by kernel_rfl) (fun _ _ _ h => h) (by assumption) rfl ?hy27q28 ?rest27q28
    case hy27q28 => (intro wS hSw; (try dsimp only at hSw); go_simp; try with_reducible rfl)
    try simp only [Act.put, List.setIfInBounds_toArray, List.set_cons_zero, List.set_cons_succ]
    refine held_quiet 28 (v := ?v28q29) rfl (by kernel_rfl) (fun _ _ _ h => h) (by assumption) rfl ?hy28q29 ?rest28q29
    case hy28q29 => (intro wS hSw; (try dsimp only at hSw); go_simp; try with_reducible rfl)
    try simp only [Act.put, List.setIfInBounds_toArray, List.set_cons_zero, List.set_cons_succ]
    refine held_quiet 29 (v := ?v29q30) rfl (by kernel_rfl) (fun _ _ _ h => h) (by assumption) rfl ?hy29q30 ?rest29q30
    case hy29q30 => (intro wS hSw; (try dsimp only at hSw); go_simp; try with_reducible rfl)
    try simp only [Act.put, List.setIfInBounds_toArray, List.set_cons_zero, List.set_cons_succ]
    refine held_quiet 30 (v := ?v30q31) rfl (by kernel_rfl) (fun _ _ _ h => h) (by assumption) rfl ?hy30q31 ?rest30q31
    case hy30q31 => (intro wS hSw; (try dsimp only at hSw); go_simp; try with_reducible rfl)
    try simp only [Act.put, List.setIfInBounds_toArray, List.set_cons_zero, List.set_cons_succ]
    refine held_quiet 31 (v := ?v31q32) rfl (by kernel_rfl) (fun _ _ _ h => h) (by assumption) rfl ?hy31q32 ?rest31q32
    case hy31q32 => (intro wS hSw; (try dsimp only at hSw); go_simp; try with_reducible rfl)
    try simp only [Act.put, List.setIfInBounds_toArray, List.set_cons_zero, List.set_cons_succ]
    refine held_quiet 34 (v := ?v34q33) rfl (by kernel_rfl) (fun _ _ _ h => h) (by assumption) rfl ?hy34q33 ?rest34q33
    case hy34q33 => (intro wS hSw; (try dsimp only at hSw); go_simp; try with_reducible rfl)
    try simp only [Act.put, List.setIfInBounds_toArray, List.set_cons_zero, List.set_cons_succ]
    refine held_one 32 rfl (by kernel_rfl) ?_
    go_wp2_with (go_at_call 30; refine (HTh.out _ _ _ (HPp.out _ (Below.refl _ _).drew)).mono ?_; rintro e u1 ⟨a1, c1, rfl, hp1, hb1⟩)
    have HU1 : Hid (Below wr.heap.size wr u1) := (Below.refl wr.heap.size wr).drew.trans hb1
    have HP1 : Hid (PartsR u1 a1 (Ri.someN n) (Ri.someP l)) := hp1
    clear hp1 hb1 hS
    have hS1 := HKeep.out _ HU1.out
    try refine ⟨hS1, ?_⟩
    refine held_quiet 33 (v := ?v33q34) rfl (by kernel_rfl) (fun _ _ _ h => h) (by assumption) rfl ?hy33q34 ?rest33q34
    case hy33q34 => (intro wS hSw; (try dsimp only at hSw); go_simp; try with_reducible rfl)
    try simp only [Act.put, List.setIfInBounds_toArray, List.set_cons_zero, List.set_cons_succ]
    refine held_one 35 rfl (by kernel_rfl) ?_
    go_wp2_with (go_at_call 27; refine (HSo.out _ (below2 HBW.out HU1.out)).mono ?_; rintro e u2 ⟨a2, c2, rfl, hp2, _, hb2⟩)
    have HU2 : Hid (Below wr.heap.size wr u2) := below2 HU1.out hb2
    have HP12 : Hid (PartsR u2 a1 (Ri.someN n) (Ri.someP l)) := HP1.out.below hb2
    have HP2 : Hid (PartsR u2 a2 (Ri.someN n) (Ri.someP l)) := hp2
    clear hp2 hb2 hS1
    have hS2 := HKeep.out _ HU2.out
    try refine ⟨hS2, ?_⟩
    refine held_one 36 rfl (by kernel_rfl) ?_
    go_wp2_with (go_at_call 30; refine (HTh.out _ _ _ HP2.out).mono ?_; rintro e u3 ⟨a3, c3, rfl, hp3, hb3⟩)
    have HU3 : Hid (Below wr.heap.size wr u3) := below2 HU2.out hb3
    have HP13 : Hid (PartsR u3 a1 (Ri.someN n) (Ri.someP l)) := HP12.out.below hb3
    have HP3 : Hid (PartsR u3 a3 (Ri.someN n) (Ri.someP l)) := hp3
    clear hp3 hb3 hS2
    have hS3 := HKeep.out _ HU3.out
    try refine ⟨hS3, ?_⟩
    refine held_quiet 37 (v := ?v37q35) rfl (by kernel_rfl) (fun _ _ _ h => h) (by assumption) rfl ?hy37q35 ?rest37q35
    case hy37q35 => (intro wS hSw; (try dsimp only at hSw); go_simp; try with_reducible rfl)
    try simp only [Act.put, List.setIfInBounds_toArray, List.set_cons_zero, List.set_cons_succ]
    refine held_one 38 rfl (by kernel_rfl) ?_
    go_wp2_with (go_at_call 37; refine (HSm.out _ _ _ _ _ HP13.out HP3.out).mono ?_; rintro e u4 ⟨rfl, hb4⟩)
    have HU4 : Hid (Below wr.heap.size wr u4) := below2 HU3.out hb4
    clear hb4 hS3
    have hS4 := HKeep.out _ HU4.out
    try refine ⟨hS4, ?_⟩
    refine held_quiet 39 (v := ?v39q36) rfl (by kernel_rfl) (fun _ _ _ h => h) (by assumption) rfl ?hy39q36 ?rest39q36
    case hy39q36 => (intro wS hSw; (try dsimp only at hSw); go_simp; try with_reducible rfl)
    try simp only [Act.put, List.setIfInBounds_toArray, List.set_cons_zero, List.set_cons_succ]
    refine held_quiet 40 (v := ?v40q37) rfl (by kernel_rfl) (fun _ _ _ h => h) (by assumption) rfl ?hy40q37 ?rest40q37
    case hy40q37 => (intro wS hSw; (try dsimp only at hSw); go_simp; try with_reducible rfl)
    try simp only [Act.put, List.setIfInBounds_toArray, List.set_cons_zero, List.set_cons_succ]
    refine held_done (by kernel_rfl) ?_
    clear hS4
    go_wp2
    go_roundg (c - (j + 1))
    case measure => omega
    case rel => exact ⟨j + 1, by omega, rfl, by go_num, below2 HB.out HU4.out⟩
set_option maxRecDepth 100000 in
set_option maxHeartbeats 2000000 in
theorem finds13_out (X : RingSays) (ar : Option Addr) (nr capr : Nat) (a : Option Addr) (n cap : Nat) (tr : Nat) (kp : Option Addr) (nk capk : Nat) (w : World) (b : Bool) (hb : b = true ∨ b = false ∧ n = 0) (hh : Calls Tryz.prog 36 #[.slice a n cap] w fun e w' => w' = w ∧ e = .returned (.bool b)) :
    Calls Tryz.prog 4 #[.slice ar nr capr, .slice a n cap, .int .u8 (tr : Int), .slice kp nk capk] w fun e w' => e = .returned (.bool true) ∧ Below w.heap.size w w' := by
  have hsh := fun W => shown13_any X W
  rcases hb with rfl | ⟨rfl, rfl⟩
  all_goals
    go_enter Tryz.func4, Tryz.ntmps4
    go_wp2_with fail
    refine hh.mono ?_
    rintro e w1 ⟨rfl, rfl⟩
    go_wp2_with fail
    refine (hsh _).mono ?_
    rintro e w2 ⟨rfl, hb2⟩
    go_wp2
    go_ret
    exact ⟨rfl, hb2⟩
set_option maxRecDepth 100000 in
set_option maxHeartbeats 2000000 in
theorem finds13_far (X : RingSays) (ar : Option Addr) (nr capr : Nat) (a : Option Addr) (n cap : Nat) (tr : Nat) (kp : Option Addr) (nk capk : Nat) (w : World) (n1 : 1 ≤ n) (hf : 30 < nr ∨ nr ≤ 30 ∧ 50 < nk) (hh : Calls Tryz.prog 36 #[.slice a n cap] w fun e w' => w' = w ∧ e = .returned (.bool false)) :
    Calls Tryz.prog 4 #[.slice ar nr capr, .slice a n cap, .int .u8 (tr : Int), .slice kp nk capk] w fun e w' => e = .returned (.bool true) ∧ Below w.heap.size w w' := by
  have hsh := fun W => shown13_any X W
  have hn0 : ((n : Int) == 0) = false := by rw [beq_eq_false_iff_ne]; omega
  rcases hf with hf | ⟨hf1, hf2⟩
  · have h1 : decide ((30 : Int) < (nr : Int)) = true := by rw [decide_eq_true_iff]; omega
    clear hf n1
    go_enter Tryz.func4, Tryz.ntmps4
    go_wp2_with fail
    refine hh.mono ?_
    rintro e w1 ⟨rfl, rfl⟩
    go_wp2_with fail
    refine (hsh _).mono ?_
    rintro e w2 ⟨rfl, hb2⟩
    go_wp2
    go_ret
    exact ⟨rfl, hb2⟩
  · have h1 : decide ((30 : Int) < (nr : Int)) = false := by rw [decide_eq_false_iff_not]; omega
    have h2 : decide ((50 : Int) < (nk : Int)) = true := by rw [decide_eq_true_iff]; omega
    clear hf1 hf2 n1
    go_enter Tryz.func4, Tryz.ntmps4
    go_wp2_with fail
    refine hh.mono ?_
    rintro e w1 ⟨rfl, rfl⟩
    go_wp2_with fail
    refine (hsh _).mono ?_
    rintro e w2 ⟨rfl, hb2⟩
    go_wp2
    go_ret
    exact ⟨rfl, hb2⟩
/-- the law RingFinds, whatever comes in -/
theorem finds13_says (X : RingSays) (ar : Option Addr) (nr capr : Nat) (rows : Nat → Nat) (a : Option Addr) (n cap : Nat) (l : Nat → ByteArray) (tr : Nat) (kp : Option Addr) (nk capk : Nat) (keep : List Nat) (w : World) (hrow : RowI .u8 w ar nr (fun j => (rows j : Int))) (h8 : ∀ j, rows j < 256) (hr : RowS w a n l) (htr : tr < 256)
    (hnk : keep.length = nk) (hkeep : RowI .u8 w kp nk (fun j => ((keep.getD j 0 : Nat) : Int))) (hk8 : ∀ j, keep.getD j 0 < 256) (hm : ∀ j, j < n → (l j).size ≤ maxLen) (hn : n ≤ maxLen) :
    Calls Tryz.prog 4 #[.slice ar nr capr, .slice a n cap, .int .u8 (tr : Int), .slice kp nk capk] w fun e w' => e = .returned (.bool true) ∧ Below w.heap.size w w' := by
  rcases heavy13_one w a n cap l hr hm hn with hh | ⟨hl, hh⟩
  · exact finds13_out X ar nr capr a n cap tr kp nk capk w true (.inl rfl) hh
  · by_cases n1 : n = 0
    · exact finds13_out X ar nr capr a n cap tr kp nk capk w false (.inr ⟨rfl, n1⟩) (hh w (Below.refl _ _))
    · by_cases n30 : nr ≤ 30
      · by_cases n50 : nk ≤ 50
        · exact finds13_main X ar nr capr rows a n cap l tr kp nk capk keep w hrow h8 hr htr hnk hkeep hk8 hl (by omega) n30 n50 hh
        · exact finds13_far X ar nr capr a n cap tr kp nk capk w (by omega) (.inr ⟨n30, by omega⟩) (hh w (Below.refl _ _))
      · exact finds13_far X ar nr capr a n cap tr kp nk capk w (by omega) (.inl (by omega)) (hh w (Below.refl _ _))
end Go.Proofs.YtjmeiifogblmoaaGreatDoor
