/- The walk of the law RingActs, over what is asked of the program's ring. -/
import Derived.Test.YtjmeiifogblmoaaGreatDoorMRiD
import Derived.Deep.CutBlock
import Derived.Deep.LoopGhost
namespace Go.Proofs.YtjmeiifogblmoaaGreatDoor
open Go.RowKit

set_option maxRecDepth 100000 in
set_option maxHeartbeats 8000000 in
theorem acts13_main (X : RingSays) (sec : Nat) (hsec : sec < 65536) (a : Option Addr) (cap n : Nat) (hn : n ≤ 40) (f : Nat → Act13) (w : World) (hA : 0 < n → ∃ b off, a = some ⟨b, off, none⟩ ∧ ∀ j, j < n → ActAt13 w b (off + j * 5) (f j)) (hL : ∀ j, j < n → ActLight (f j))
    (hh : Calls Tryz.prog 8 #[.slice a n cap] w fun e w' => w' = w ∧ e = .returned (.bool false)) :
    Calls Tryz.prog 3 #[.int .u16 (sec : Int), .slice a n cap] w fun e w' => e = .returned (.bool true) ∧ Below w.heap.size w w' := by
  have hsh := fun W => shown13_any X W
  have HMX : Hid (Tryz.prog.follows .mixedOrders = true) := by show _ = _; kernel_rfl
  obtain ⟨y, hy⟩ : ∃ y, y = sec % 180 := ⟨_, rfl⟩
  obtain ⟨N, hN⟩ : ∃ N, N = 1 + y := ⟨_, rfl⟩
  have hm1 : (sec : Int).tmod 180 = (y : Int) := by rw [Int.tmod_eq_emod_of_nonneg (by omega)]; omega
  have hm2 : (sec : Int) % 180 = (y : Int) := by omega
  have hN1 : (1 : Int) + (y : Int) = (N : Int) := by omega
  have hN2 : 1 ≤ N ∧ N ≤ 180 := by omega
  have hs1 : IntKind.i64.wrap (sec : Int) = (sec : Int) := by rw [IntKind.wrap_i64]; omega
  have hsp := fun W => X.slots sec W (by omega)
  have hsr := fun W => rSlots_any sec (by omega) W
  obtain ⟨q, hq⟩ : ∃ q, q = Ri.slots sec := ⟨_, rfl⟩
  rw [← hq] at hsp hsr
  have hqq : ((q : Int) != (q : Int)) = false := by simp
  have HNew : Hid (∀ W, Calls Tryz.prog 10 #[.int .i64 (N : Nat)] W fun e w' => ∃ p, e = .returned (.pointer (some ⟨p, 0, none⟩)) ∧ Mine w' W.heap.size p (Dr.fresh N) ∧ Below W.heap.size W w') := fun W => new_mine N W.heap.size (by omega) (by omega) W (Nat.le_refl _)
  have HNr : Hid (∀ W, Calls Tryz.prog 11 #[.int .i64 (N : Nat)] W fun e w' => ∃ rp, e = .returned (.pointer (some ⟨rp, 0, none⟩)) ∧ RefAt w' rp (Dr.fresh N) (fun k => W.heap.size ≤ k) ∧ Below W.heap.size W w') := fun W => refNew_atN N (by omega) (by omega) W
  have HN : Hid (1 ≤ N ∧ N ≤ 180 ∧ N ≤ 200) := ⟨hN2.1, hN2.2, by omega⟩
  have HA : Hid (0 < n → ∃ b off, a = some ⟨b, off, none⟩ ∧ ∀ j, j < n → ActAt13 w b (off + j * 5) (f j)) := hA
  have HL : Hid (∀ j, j < n → ActLight (f j)) := hL
  have HSp : Hid (∀ W, Calls Tryz.prog 14 #[.int .i64 (sec : Nat)] W fun e w' => e = .returned (.int .i64 (q : Nat)) ∧ Below W.heap.size W w') := hsp
  have HSr : Hid (∀ W, Calls Tryz.prog 15 #[.int .i64 (sec : Nat)] W fun e w' => e = .returned (.int .i64 (q : Nat)) ∧ w' = W) := hsr
  clear hy hN hN2 hA hL hq hsp hsr
  go_enter Tryz.func3, Tryz.ntmps3
  go_wp2_with fail
  refine hh.mono ?_
  rintro e w1 ⟨rfl, rfl⟩
  clear hh
  go_wp2_with fail
  refine (hsh _).mono ?_
  rintro e w2 ⟨rfl, hb2⟩
  have HB2 : Hid (Below w1.heap.size w1 w2) := hb2
  clear hb2 hsh
  go_wp2_with fail
  refine (HNew.out _).mono ?_
  rintro e w3 ⟨dp, rfl, hm3, hb3⟩
  have HM3 : Hid (Mine w3 w2.heap.size dp (Dr.fresh N)) := hm3
  have HB3 : Hid (Below w2.heap.size w2 w3) := hb3
  clear hm3 hb3
  go_wp2_with fail
  refine (HNr.out _).mono ?_
  rintro e w4 ⟨kp, rfl, hr4, hb4⟩
  have HB4 : Hid (Below w1.heap.size w1 w4) := below2 (below2 HB2.out HB3.out) hb4
  have HT4 : Hid (Two X w4 w1.heap.size 2 dp kp (Dr.fresh N) (Dr.fresh N) none none 0 #[]) := two_new HB2.out.size HM3.out.1 HB3.out hr4 hb4
  clear hr4 hb4 hm1 hm2 hN1
  obtain ⟨D1, hD1⟩ : ∃ D1, D1 = (Ri.formatS (Dr.fresh N)).2 := ⟨_, rfl⟩
  have HI1 : Hid (Inv13 D1 N 1) := by rw [hD1]; exact (Inv13.fresh N).format HN.out.2.2
  have hfm := HT4.out.format (by decide) (Inv13.fresh N) (by decide)
  obtain ⟨ef, hef⟩ : ∃ ef, ef = (Ri.formatS (Dr.fresh N)).1 := ⟨_, rfl⟩
  rw [← hD1, ← hef] at hfm
  have HFr : Hid (∀ W, Two X W w1.heap.size 2 dp kp D1 (Dr.fresh N) none none 0 #[] → Calls Tryz.prog 13 #[.pointer (some ⟨kp, 0, none⟩)] W fun e w' => e = .returned (.int .i64 (ef : Nat)) ∧ Two X w' w1.heap.size 2 dp kp D1 D1 none none 0 #[] ∧ Only (Old13 w1.heap.size W) W w') := fun W h => by
    have := h.rformat (by decide) (Inv13.fresh N) (by decide)
    rw [← hD1, ← hef] at this
    exact this
  have hee : ((ef : Int) != (ef : Int)) = false := by simp
  clear hD1 hef
  go_wp2_with fail
  refine hfm.mono ?_
  rintro e w5 ⟨rfl, ht5, ho5⟩
  have HB5 : Hid (Below w1.heap.size w1 w5) := HB4.out.trans (old13 ho5 HB4.out.size (Nat.le_refl _))
  have hfr := HFr.out _ ht5
  clear ht5 ho5 hfm
  go_wp2_with fail
  refine hfr.mono ?_
  rintro e w6 ⟨rfl, ht6, ho6⟩
  have HT6 : Hid (Two X w6 w1.heap.size 2 dp kp D1 D1 none none 0 #[]) := ht6
  have HB6 : Hid (Below w1.heap.size w1 w6) := HB5.out.trans (old13 ho6 HB5.out.size (Nat.le_refl _))
  clear ht6 ho6 hfr
  go_wp2_with fail
  refine (HSp.out _).mono ?_
  rintro e w7 ⟨rfl, hb7⟩
  have HT7 : Hid (Two X w7 w1.heap.size 2 dp kp D1 D1 none none 0 #[]) := HT6.out.below hb7
  have HB7 : Hid (Below w1.heap.size w1 w7) := below2 HB6.out hb7
  clear hb7
  go_wp2_with fail
  refine (HSr.out _).mono ?_
  rintro e w8 ⟨rfl, rfl⟩
  have hop := HT7.out.open1 (by decide) HI1.out.goes
  obtain ⟨eo, heo⟩ : ∃ eo, eo = Ri.openE D1 := ⟨_, rfl⟩
  rw [← heo] at hop
  have hoo : ((eo : Int) != (eo : Int)) = false := by simp
  clear hqq hee
  go_wp2_with fail
  refine hop.mono ?_
  rintro e w9 ⟨po9, a9, c9, k9, rfl, ht9, ho9, _, hb9⟩
  have HB9 : Hid (Below w1.heap.size w1 w9) := below2 HB7.out hb9
  have HO9 : Hid (Opened D1 po9 c9) := ho9
  have hor := ht9.ropen1 (by decide) HI1.out.goes
  rw [← heo] at hor
  clear ht9 ho9 hb9 hop heo
  go_wp2_with fail
  refine hor.mono ?_
  rintro e w10 ⟨ro10, a10, c10, k10, rfl, ht10, ho10, _, hb10⟩
  have HB10 : Hid (Below w1.heap.size w1 w10) := below2 HB9.out hb10
  obtain ⟨_, rg, rfl, rfl, hpv, hsv, hok⟩ := opened_both HI1.out.len HO9.out ho10
  rw [hpv, hsv]
  have HT10 : Hid (Two X w10 w1.heap.size 2 dp kp D1 D1 (pO rg) (rO rg) 0 #[]) := ht10
  have HOk : Hid (rgOk N rg) := hok
  clear ht10 ho10 hb10 hor hpv hsv hok
  go_wp2
  go_loopg [8, 11, 14] n (fun gg u8 u11 i wr => ∃ (k : Nat) (D : Dr) (rg : Rg), k ≤ n ∧ gg = n - k ∧ u8 = pV rg ∧ u11 = sV rg ∧ i = .int .i64 (k : Int) ∧ Two X wr w1.heap.size 2 dp kp D D (pO rg) (rO rg) 0 #[] ∧ Inv13 D N (3 * k + 1) ∧ rgOk N rg ∧ Below w1.heap.size w1 wr)
  case atStart => exact ⟨0, D1, rg, Nat.zero_le _, rfl, rfl, rfl, rfl, HT10.out, HI1.out, HOk.out, HB10.out⟩
  case round =>
  obtain ⟨k, D, rg, hk, rfl, rfl, rfl, rfl, ht, hi, hok, hb⟩ := hrel
  have HT : Hid (Two X wr w1.heap.size 2 dp kp D D (pO rg) (rO rg) 0 #[]) := ht
  have HI : Hid (Inv13 D N (3 * k + 1)) := hi
  have HOk : Hid (rgOk N rg) := hok
  have HB : Hid (Below w1.heap.size w1 wr) := hb
  clear ht hi hok hb HT10 HB10 HI1 HB9 HO9 HB7 HT7 HT6 HB6 HB5 HT4 HB4 HB3 HM3 HB2 HNew HNr HSp HSr HFr hoo hs1
  by_cases hlt : k < n
  case neg =>
    have hkn : k = n := by omega
    have hki : ¬ (k : Int) < (n : Int) := by omega
    clear hkn hlt hk
    go_wp2
    go_ret
    exact ⟨rfl, HB.out⟩
  case pos =>
  have hki : (k : Int) < (n : Int) := by omega
  obtain ⟨b, off, rfl, hAt⟩ := HA.out (by omega)
  have hak := hAt k hlt
  have hlx := HL.out k hlt
  have HK : Hid (k < n ∧ k ≤ 40) := ⟨hlt, by omega⟩
  generalize f k = x at hak hlx
  have HX : Hid (ActOk w1 x ∧ ActLight x) := ⟨hak.ok, hlx⟩
  have c0 := (HB.out.cell (p := ⟨b, off + k * 5, none⟩) (World.block_lt_of_cell? w1 _ hak.c0)).trans hak.c0
  have c1 := (HB.out.cell (p := ⟨b, off + k * 5 + 1, none⟩) (World.block_lt_of_cell? w1 _ hak.c1)).trans hak.c1
  have c2 := (HB.out.cell (p := ⟨b, off + k * 5 + 2, none⟩) (World.block_lt_of_cell? w1 _ hak.c2)).trans hak.c2
  have c3 := (HB.out.cell (p := ⟨b, off + k * 5 + 3, none⟩) (World.block_lt_of_cell? w1 _ hak.c3)).trans hak.c3
  have c4 := (HB.out.cell (p := ⟨b, off + k * 5 + 4, none⟩) (World.block_lt_of_cell? w1 _ hak.c4)).trans hak.c4
  obtain ⟨κ, ii, sa, sn, sc, s, pa, pn, pc, p, ka, kn, kc, keep⟩ := x
  dsimp only at c0 c1 c2 c3 c4
  clear hak hlx hAt
  go_upto_region 16 with fail
  obtain ⟨V, hV⟩ : ∃ V, V = wr.alloc (.cells #[.int .i64 κ, .int .i64 ii, .slice sa sn sc, .slice pa pn pc, .slice ka kn kc] 46) := ⟨_, rfl⟩
  have av := HT.out.act #[.int .i64 κ, .int .i64 ii, .slice sa sn sc, .slice pa pn pc, .slice ka kn kc]
  have bv : Below wr.heap.size wr V := by rw [hV]; exact (Below.refl _ wr).alloc (Nat.le_refl _) _
  rw [← hV] at av ⊢
  obtain ⟨A, hAA⟩ : ∃ A, A = wr.heap.size := ⟨_, rfl⟩
  rw [← hAA] at av ⊢
  obtain ⟨CS, hCS⟩ : ∃ CS : Array Value, CS = #[.int .i64 κ, .int .i64 ii, .slice sa sn sc, .slice pa pn pc, .slice ka kn kc] := ⟨_, rfl⟩
  rw [← hCS] at av
  have HCS : Hid (CS = #[.int .i64 κ, .int .i64 ii, .slice sa sn sc, .slice pa pn pc, .slice ka kn kc]) := hCS
  have AV : Hid (Two X V w1.heap.size 3 dp kp D D (pO rg) (rO rg) A CS) := av
  have BV : Hid (Below w1.heap.size w1 V) := below2 HB.out bv
  have HD : Hid (∀ W (D E : Dr) po ro, Two X W w1.heap.size 3 dp kp D E po ro A CS → W.cell? ⟨A, 0, none⟩ = some (.int .i64 κ) ∧ W.cell? ⟨A, 1, none⟩ = some (.int .i64 ii) ∧ W.cell? ⟨A, 2, none⟩ = some (.slice sa sn sc) ∧ W.cell? ⟨A, 3, none⟩ = some (.slice pa pn pc) ∧ W.cell? ⟨A, 4, none⟩ = some (.slice ka kn kc)) := fun W D E po ro h => by
    rw [h.atA 0, h.atA 1, h.atA 2, h.atA 3, h.atA 4, HCS.out]
    exact ⟨rfl, rfl, rfl, rfl, rfl⟩
  obtain ⟨d0, d1, d2, d3, d4⟩ := HD.out _ _ _ _ _ av
  clear av bv hV hAA hCS c0 c1 c2 c3 c4 HT d1 d2 d3 d4
  go_cut [16] from 87 to 282 (fun s16 wc => ∃ ag : Bool, s16 = .bool ag ∧ wc = V)
  case first =>
    by_cases h3 : κ = 3
    · subst h3
      go_wp2
      go_meet
      exact ⟨_, rfl, rfl⟩
    · have k3 : (κ == 3) = false := by rw [beq_eq_false_iff_ne]; exact h3
      by_cases h4 : κ = 4
      · subst h4
        go_wp2
        go_meet
        exact ⟨_, rfl, rfl⟩
      · have k4 : (κ == 4) = false := by rw [beq_eq_false_iff_ne]; exact h4
        clear h3 h4
        go_wp2
        go_meet
        exact ⟨_, rfl, rfl⟩
  case rest =>
  obtain ⟨ag, rfl, rfl⟩ := hcut
  go_upto_block 2 with fail
  go_cut [17] from 102 to 282 (fun s17 wx => ∃ DZ : Dr, Two X wx w1.heap.size 3 dp kp DZ DZ (pO rg) (rO rg) A CS ∧ Inv13 DZ N (3 * k + 2) ∧ Below w1.heap.size w1 wx)
  case first =>
    by_cases h4 : κ = 4
    · subst h4
      as_aux_lemma =>
        have hkl := HX.out.1.kl
        have HCr : Hid (∀ W E, Below w1.heap.size w1 W → Two X W w1.heap.size 3 dp kp D E (pO rg) (rO rg) A CS → Calls Tryz.prog 18 #[.pointer (some ⟨dp, 0, none⟩), .slice ka kn kc] W fun e w' => e = .returned (.tuple #[]) ∧ Two X w' w1.heap.size 3 dp kp (D.crash keep) E (pO rg) (rO rg) A CS ∧ Only (Old13 w1.heap.size W) W w') := fun W E hb h => by
          have := h.crash HI.out (by have := HK.out; omega) keep ka kc (HX.out.1.kr.below hb) (by have := HX.out.2.2.2.1; dsimp only at this; rw [hkl]; dsimp only; omega) HX.out.1.k8 HX.out.1.kb
          rw [hkl] at this
          exact this
        have HCr2 : Hid (∀ W E, Below w1.heap.size w1 W → Two X W w1.heap.size 3 dp kp E D (pO rg) (rO rg) A CS → Calls Tryz.prog 19 #[.pointer (some ⟨kp, 0, none⟩), .slice ka kn kc] W fun e w' => e = .returned (.tuple #[]) ∧ Two X w' w1.heap.size 3 dp kp E (D.crash keep) (pO rg) (rO rg) A CS ∧ Only (Old13 w1.heap.size W) W w') := fun W E hb h => by
          have := h.rcrash HI.out (by have := HK.out; omega) keep ka kc (HX.out.1.kr.below hb) (by have := HX.out.2.2.2.1; dsimp only at this; rw [hkl]; dsimp only; omega) HX.out.1.k8 HX.out.1.kb
          rw [hkl] at this
          exact this
        obtain ⟨DZ, hDZ⟩ : ∃ DZ, DZ = D.crash keep := ⟨_, rfl⟩
        have IZ : Hid (Inv13 DZ N (3 * k + 2)) := by rw [hDZ]; exact HI.out.crash keep
        have hsv := HCr.out _ _ BV.out AV.out
        obtain ⟨_, _, _, _, d4⟩ := HD.out _ _ _ _ _ AV.out
        clear hkl
        go_wp2_with fail
        refine hsv.mono ?_
        rintro e W2 ⟨rfl, t2, o2⟩
        have B2 : Hid (Below w1.heap.size w1 W2) := BV.out.trans (old13 o2 BV.out.size (Nat.le_refl _))
        have hsv2 := HCr2.out _ _ B2.out t2
        obtain ⟨_, _, _, _, d4'⟩ := HD.out _ _ _ _ _ t2
        clear t2 o2 hsv d4 d0
        go_wp2_with fail
        refine hsv2.mono ?_
        rintro e W3 ⟨rfl, t3, o3⟩
        have BZ : Hid (Below w1.heap.size w1 W3) := B2.out.trans (old13 o3 B2.out.size (Nat.le_refl _))
        have TZ : Hid (Two X W3 w1.heap.size 3 dp kp DZ DZ (pO rg) (rO rg) A CS) := by rw [hDZ]; exact t3
        clear t3 o3 hsv2 d4' hDZ
        go_wp2_with fail
        go_meet
        exact ⟨DZ, TZ.out, IZ.out, BZ.out⟩
    have k4 : (κ == 4) = false := by rw [beq_eq_false_iff_ne]; exact h4
    by_cases h5 : κ = 5
    · subst h5
      as_aux_lemma =>
        by_cases hs0 : sn = 0
        · subst hs0
          have hbs : (⟨#[]⟩ : ByteArray).size ≤ 100 := by decide
          obtain ⟨fb, hfb⟩ : ∃ fb, fb = Rc.fillB ⟨#[]⟩ := ⟨_, rfl⟩
          have hf64 : fb.size = 64 := by rw [hfb]; exact Rc.fillB_size _
          have HFu : Hid (∀ W, Calls Tryz.prog 21 #[.string ⟨#[]⟩] W fun e w' => e = .returned (.string fb) ∧ w' = W) := fun W => by rw [hfb]; exact full13_any _ hbs W
          obtain ⟨DZ, hDZ⟩ : ∃ DZ, DZ = (D.wri ii fb.data.toList).2 := ⟨_, rfl⟩
          have IZ : Hid (Inv13 DZ N (3 * k + 2)) := by rw [hDZ]; exact HI.out.wri ii _
          obtain ⟨ew, hew⟩ : ∃ ew, ew = (D.wri ii fb.data.toList).1 := ⟨_, rfl⟩
          have hww : ((ew : Int) != (ew : Int)) = false := by simp
          have HW1 : Hid (∀ W E, Two X W w1.heap.size 3 dp kp D E (pO rg) (rO rg) A CS → Calls Tryz.prog 20 #[.pointer (some ⟨dp, 0, none⟩), .int .i64 ii, .string fb] W fun e w' => e = .returned (.int .i64 (ew : Nat)) ∧ Two X w' w1.heap.size 3 dp kp DZ E (pO rg) (rO rg) A CS ∧ Only (Old13 w1.heap.size W) W w') := fun W E h => by rw [hDZ, hew]; exact h.write HI.out (by have := HK.out; omega) ii fb hf64
          have HW2 : Hid (∀ W E, Two X W w1.heap.size 3 dp kp E D (pO rg) (rO rg) A CS → Calls Tryz.prog 22 #[.pointer (some ⟨kp, 0, none⟩), .int .i64 ii, .string fb] W fun e w' => e = .returned (.int .i64 (ew : Nat)) ∧ Two X w' w1.heap.size 3 dp kp E DZ (pO rg) (rO rg) A CS ∧ Only (Old13 w1.heap.size W) W w') := fun W E h => by rw [hDZ, hew]; exact h.rwrite HI.out (by have := HK.out; omega) ii fb hf64
          clear hfb hf64 hDZ hew hbs
          obtain ⟨_, _, d2, _, _⟩ := HD.out _ _ _ _ _ AV.out
          go_upto_region 25 with fail
          have AD : Hid (Two X wc.drew w1.heap.size 3 dp kp D D (pO rg) (rO rg) A CS) := AV.out.below (Below.refl _ _).drew
          have hS : (fun W : World => W.cell? ⟨A, 1, none⟩ = some (.int .i64 ii)) wc.drew := (HD.out _ _ _ _ _ AD.out).2.1
          refine wp_region_held (S := fun W => W.cell? ⟨A, 1, none⟩ = some (.int .i64 ii)) HMX.out ?_
          change wpAnyH _ _ _ _ _ _ _ _ wc.drew
          refine held_quiet 0 (v := ?v0q1) rfl (by kernel_rfl) (fun _ _ _ h => h) (by assumption) rfl ?hy0q1 ?rest0q1
          case hy0q1 => (intro wS hSw; (try dsimp only at hSw); go_simp; try with_reducible rfl)
          try simp only [Act.put, List.setIfInBounds_toArray, List.set_cons_zero, List.set_cons_succ]
          refine held_quiet 1 (v := ?v1q2) rfl (by kernel_rfl) (fun _ _ _ h => h) (by assumption) rfl ?hy1q2 ?rest1q2
          case hy1q2 => (intro wS hSw; (try dsimp only at hSw); go_simp; try with_reducible rfl)
          try simp only [Act.put, List.setIfInBounds_toArray, List.set_cons_zero, List.set_cons_succ]
          refine held_quiet 2 (v := ?v2q3) rfl (by kernel_rfl) (fun _ _ _ h => h) (by assumption) rfl ?hy2q3 ?rest2q3
          case hy2q3 => (intro wS hSw; (try dsimp only at hSw); go_simp; try with_reducible rfl)
          try simp only [Act.put, List.setIfInBounds_toArray, List.set_cons_zero, List.set_cons_succ]
          refine held_quiet 3 (v := ?v3q4) rfl (by kernel_rfl) (fun _ _ _ h => h) (by assumption) rfl ?hy3q4 ?rest3q4
          case hy3q4 => (intro wS hSw; (try dsimp only at hSw); go_simp; try with_reducible rfl)
          try simp only [Act.put, List.setIfInBounds_toArray, List.set_cons_zero, List.set_cons_succ]
          refine held_quiet 6 (v := ?v6q5) rfl (by kernel_rfl) (fun _ _ _ h => h) (by assumption) rfl ?hy6q5 ?rest6q5
          case hy6q5 => (intro wS hSw; (try dsimp only at hSw); go_simp; try with_reducible rfl)
          try simp only [Act.put, List.setIfInBounds_toArray, List.set_cons_zero, List.set_cons_succ]
          refine held_quiet 7 (v := ?v7q6) rfl (by kernel_rfl) (fun _ _ _ h => h) (by assumption) rfl ?hy7q6 ?rest7q6
          case hy7q6 => (intro wS hSw; (try dsimp only at hSw); go_simp; try with_reducible rfl)
          try simp only [Act.put, List.setIfInBounds_toArray, List.set_cons_zero, List.set_cons_succ]
          refine held_quiet 8 (v := ?v8q7) rfl (by kernel_rfl) (fun _ _ _ h => h) (by assumption) rfl ?hy8q7 ?rest8q7
          case hy8q7 => (intro wS hSw; (try dsimp only at hSw); go_simp; try with_reducible rfl)
          try simp only [Act.put, List.setIfInBounds_toArray, List.set_cons_zero, List.set_cons_succ]
          refine held_quiet 9 (v := ?v9q8) rfl (by kernel_rfl) (fun _ _ _ h => h) (by assumption) rfl ?hy9q8 ?rest9q8
          case hy9q8 => (intro wS hSw; (try dsimp only at hSw); go_simp; try with_reducible rfl)
          try simp only [Act.put, List.setIfInBounds_toArray, List.set_cons_zero, List.set_cons_succ]
          refine held_one 4 rfl (by kernel_rfl) ?_
          go_wp2_with (go_at_call 21; refine (HFu.out _).mono ?_; rintro e w5 ⟨rfl, rfl⟩)
          try refine ⟨hS, ?_⟩
          refine held_one 5 rfl (by kernel_rfl) ?_
          go_wp2_with (go_at_call 20; refine (HW1.out _ _ AD.out).mono ?_; rintro e W2 ⟨rfl, t2, o2⟩)
          have T2 : Hid (Two X W2 w1.heap.size 3 dp kp DZ D (pO rg) (rO rg) A CS) := t2
          have B2 : Hid (Below w1.heap.size w1 W2) := (BV.out.drew).trans (old13 o2 BV.out.size (Nat.le_refl _))
          clear t2 o2 hS
          have hS2 : (fun W : World => W.cell? ⟨A, 1, none⟩ = some (.int .i64 ii)) W2 := (HD.out _ _ _ _ _ T2.out).2.1
          try refine ⟨hS2, ?_⟩
          refine held_one 10 rfl (by kernel_rfl) ?_
          go_wp2_with (go_at_call 21; refine (HFu.out _).mono ?_; rintro e w5 ⟨rfl, rfl⟩)
          try refine ⟨hS2, ?_⟩
          refine held_one 11 rfl (by kernel_rfl) ?_
          go_wp2_with (go_at_call 22; refine (HW2.out _ _ T2.out).mono ?_; rintro e W3 ⟨rfl, t3, o3⟩)
          have TZ : Hid (Two X W3 w1.heap.size 3 dp kp DZ DZ (pO rg) (rO rg) A CS) := t3
          have BZ : Hid (Below w1.heap.size w1 W3) := B2.out.trans (old13 o3 B2.out.size (Nat.le_refl _))
          clear t3 o3 hS2
          have hS3 : (fun W : World => W.cell? ⟨A, 1, none⟩ = some (.int .i64 ii)) W3 := (HD.out _ _ _ _ _ TZ.out).2.1
          try refine ⟨hS3, ?_⟩
          refine held_quiet 12 (v := ?v12q9) rfl (by kernel_rfl) (fun _ _ _ h => h) (by assumption) rfl ?hy12q9 ?rest12q9
          case hy12q9 => (intro wS hSw; (try dsimp only at hSw); go_simp; try with_reducible rfl)
          try simp only [Act.put, List.setIfInBounds_toArray, List.set_cons_zero, List.set_cons_succ]
          refine held_done (by kernel_rfl) ?_
          clear hS3 T2 B2
          go_wp2_with fail
          go_meet
          exact ⟨DZ, TZ.out, IZ.out, BZ.out⟩
        · obtain ⟨bs, os, rfl, hcs⟩ := HX.out.1.sr 0 (by dsimp only; omega)
          have hbs : (s 0).size ≤ 100 := HX.out.2.1.2 0 (by dsimp only; omega)
          have hsn : (0 : Int) < (sn : Int) := by omega
          have hcw := (BV.out.cell (p := ⟨bs, os + 0, none⟩) (World.block_lt_of_cell? w1 _ hcs)).trans hcs
          dsimp only at hcw
          rw [Nat.add_zero] at hcw
          obtain ⟨bb, hbb⟩ : ∃ bb, bb = s 0 := ⟨_, rfl⟩
          rw [← hbb] at hcw hbs
          clear hcs hs0 hbb
          skip
          obtain ⟨fb, hfb⟩ : ∃ fb, fb = Rc.fillB bb := ⟨_, rfl⟩
          have hf64 : fb.size = 64 := by rw [hfb]; exact Rc.fillB_size _
          have HFu : Hid (∀ W, Calls Tryz.prog 21 #[.string bb] W fun e w' => e = .returned (.string fb) ∧ w' = W) := fun W => by rw [hfb]; exact full13_any _ hbs W
          obtain ⟨DZ, hDZ⟩ : ∃ DZ, DZ = (D.wri ii fb.data.toList).2 := ⟨_, rfl⟩
          have IZ : Hid (Inv13 DZ N (3 * k + 2)) := by rw [hDZ]; exact HI.out.wri ii _
          obtain ⟨ew, hew⟩ : ∃ ew, ew = (D.wri ii fb.data.toList).1 := ⟨_, rfl⟩
          have hww : ((ew : Int) != (ew : Int)) = false := by simp
          have HW1 : Hid (∀ W E, Two X W w1.heap.size 3 dp kp D E (pO rg) (rO rg) A CS → Calls Tryz.prog 20 #[.pointer (some ⟨dp, 0, none⟩), .int .i64 ii, .string fb] W fun e w' => e = .returned (.int .i64 (ew : Nat)) ∧ Two X w' w1.heap.size 3 dp kp DZ E (pO rg) (rO rg) A CS ∧ Only (Old13 w1.heap.size W) W w') := fun W E h => by rw [hDZ, hew]; exact h.write HI.out (by have := HK.out; omega) ii fb hf64
          have HW2 : Hid (∀ W E, Two X W w1.heap.size 3 dp kp E D (pO rg) (rO rg) A CS → Calls Tryz.prog 22 #[.pointer (some ⟨kp, 0, none⟩), .int .i64 ii, .string fb] W fun e w' => e = .returned (.int .i64 (ew : Nat)) ∧ Two X w' w1.heap.size 3 dp kp E DZ (pO rg) (rO rg) A CS ∧ Only (Old13 w1.heap.size W) W w') := fun W E h => by rw [hDZ, hew]; exact h.rwrite HI.out (by have := HK.out; omega) ii fb hf64
          clear hfb hf64 hDZ hew hbs
          obtain ⟨_, _, d2, _, _⟩ := HD.out _ _ _ _ _ AV.out
          go_upto_region 25 with fail
          have AD : Hid (Two X wc.drew w1.heap.size 3 dp kp D D (pO rg) (rO rg) A CS) := AV.out.below (Below.refl _ _).drew
          have hS : (fun W : World => W.cell? ⟨A, 1, none⟩ = some (.int .i64 ii)) wc.drew := (HD.out _ _ _ _ _ AD.out).2.1
          refine wp_region_held (S := fun W => W.cell? ⟨A, 1, none⟩ = some (.int .i64 ii)) HMX.out ?_
          change wpAnyH _ _ _ _ _ _ _ _ wc.drew
          refine held_quiet 0 (v := ?v0q10) rfl (by kernel_rfl) (fun _ _ _ h => h) (by assumption) rfl ?hy0q10 ?rest0q10
          case hy0q10 => (intro wS hSw; (try dsimp only at hSw); go_simp; try with_reducible rfl)
          try simp only [Act.put, List.setIfInBounds_toArray, List.set_cons_zero, List.set_cons_succ]
          refine held_quiet 1 (v := ?v1q11) rfl (by kernel_rfl) (fun _ _ _ h => h) (by assumption) rfl ?hy1q11 ?rest1q11
          case hy1q11 => (intro wS hSw; (try dsimp only at hSw); go_simp; try with_reducible rfl)
          try simp only [Act.put, List.setIfInBounds_toArray, List.set_cons_zero, List.set_cons_succ]
          refine held_quiet 2 (v := ?v2q12) rfl (by kernel_rfl) (fun _ _ _ h => h) (by assumption) rfl ?hy2q12 ?rest2q12
          case hy2q12 => (intro wS hSw; (try dsimp only at hSw); go_simp; try with_reducible rfl)
          try simp only [Act.put, List.setIfInBounds_toArray, List.set_cons_zero, List.set_cons_succ]
          refine held_quiet 3 (v := ?v3q13) rfl (by kernel_rfl) (fun _ _ _ h => h) (by assumption) rfl ?hy3q13 ?rest3q13
          case hy3q13 => (intro wS hSw; (try dsimp only at hSw); go_simp; try with_reducible rfl)
          try simp only [Act.put, List.setIfInBounds_toArray, List.set_cons_zero, List.set_cons_succ]
          refine held_quiet 6 (v := ?v6q14) rfl (by kernel_rfl) (fun _ _ _ h => h) (by assumption) rfl ?hy6q14 ?rest6q14
          case hy6q14 => (intro wS hSw; (try dsimp only at hSw); go_simp; try with_reducible rfl)
          try simp only [Act.put, List.setIfInBounds_toArray, List.set_cons_zero, List.set_cons_succ]
          refine held_quiet 7 (v := ?v7q15) rfl (by kernel_rfl) (fun _ _ _ h => h) (by assumption) rfl ?hy7q15 ?rest7q15
          case hy7q15 => (intro wS hSw; (try dsimp only at hSw); go_simp; try with_reducible rfl)
          try simp only [Act.put, List.setIfInBounds_toArray, List.set_cons_zero, List.set_cons_succ]
          refine held_quiet 8 (v := ?v8q16) rfl (by kernel_rfl) (fun _ _ _ h => h) (by assumption) rfl ?hy8q16 ?rest8q16
          case hy8q16 => (intro wS hSw; (try dsimp only at hSw); go_simp; try with_reducible rfl)
          try simp only [Act.put, List.setIfInBounds_toArray, List.set_cons_zero, List.set_cons_succ]
          refine held_quiet 9 (v := ?v9q17) rfl (by kernel_rfl) (fun _ _ _ h => h) (by assumption) rfl ?hy9q17 ?rest9q17
          case hy9q17 => (intro wS hSw; (try dsimp only at hSw); go_simp; try with_reducible rfl)
          try simp only [Act.put, List.setIfInBounds_toArray, List.set_cons_zero, List.set_cons_succ]
          refine held_one 4 rfl (by kernel_rfl) ?_
          go_wp2_with (go_at_call 21; refine (HFu.out _).mono ?_; rintro e w5 ⟨rfl, rfl⟩)
          try refine ⟨hS, ?_⟩
          refine held_one 5 rfl (by kernel_rfl) ?_
          go_wp2_with (go_at_call 20; refine (HW1.out _ _ AD.out).mono ?_; rintro e W2 ⟨rfl, t2, o2⟩)
          have T2 : Hid (Two X W2 w1.heap.size 3 dp kp DZ D (pO rg) (rO rg) A CS) := t2
          have B2 : Hid (Below w1.heap.size w1 W2) := (BV.out.drew).trans (old13 o2 BV.out.size (Nat.le_refl _))
          clear t2 o2 hS
          have hS2 : (fun W : World => W.cell? ⟨A, 1, none⟩ = some (.int .i64 ii)) W2 := (HD.out _ _ _ _ _ T2.out).2.1
          try refine ⟨hS2, ?_⟩
          refine held_one 10 rfl (by kernel_rfl) ?_
          go_wp2_with (go_at_call 21; refine (HFu.out _).mono ?_; rintro e w5 ⟨rfl, rfl⟩)
          try refine ⟨hS2, ?_⟩
          refine held_one 11 rfl (by kernel_rfl) ?_
          go_wp2_with (go_at_call 22; refine (HW2.out _ _ T2.out).mono ?_; rintro e W3 ⟨rfl, t3, o3⟩)
          have TZ : Hid (Two X W3 w1.heap.size 3 dp kp DZ DZ (pO rg) (rO rg) A CS) := t3
          have BZ : Hid (Below w1.heap.size w1 W3) := B2.out.trans (old13 o3 B2.out.size (Nat.le_refl _))
          clear t3 o3 hS2
          have hS3 : (fun W : World => W.cell? ⟨A, 1, none⟩ = some (.int .i64 ii)) W3 := (HD.out _ _ _ _ _ TZ.out).2.1
          try refine ⟨hS3, ?_⟩
          refine held_quiet 12 (v := ?v12q18) rfl (by kernel_rfl) (fun _ _ _ h => h) (by assumption) rfl ?hy12q18 ?rest12q18
          case hy12q18 => (intro wS hSw; (try dsimp only at hSw); go_simp; try with_reducible rfl)
          try simp only [Act.put, List.setIfInBounds_toArray, List.set_cons_zero, List.set_cons_succ]
          refine held_done (by kernel_rfl) ?_
          clear hS3 T2 B2
          go_wp2_with fail
          go_meet
          exact ⟨DZ, TZ.out, IZ.out, BZ.out⟩
    have k5 : (κ == 5) = false := by rw [beq_eq_false_iff_ne]; exact h5
    by_cases h6 : κ = 6
    · subst h6
      as_aux_lemma =>
        obtain ⟨DZ, hDZ⟩ : ∃ DZ, DZ = (D.spi ii).2 := ⟨_, rfl⟩
        have IZ : Hid (Inv13 DZ N (3 * k + 2)) := by rw [hDZ]; exact HI.out.spi ii
        obtain ⟨ew, hew⟩ : ∃ ew, ew = (D.spi ii).1 := ⟨_, rfl⟩
        have hww : ((ew : Int) != (ew : Int)) = false := by simp
        have HW1 : Hid (∀ W E, Two X W w1.heap.size 3 dp kp D E (pO rg) (rO rg) A CS → Calls Tryz.prog 23 #[.pointer (some ⟨dp, 0, none⟩), .int .i64 ii] W fun e w' => e = .returned (.int .i64 (ew : Nat)) ∧ Two X w' w1.heap.size 3 dp kp DZ E (pO rg) (rO rg) A CS ∧ Only (Old13 w1.heap.size W) W w') := fun W E h => by rw [hDZ, hew]; exact h.spoil ii
        have HW2 : Hid (∀ W E, Two X W w1.heap.size 3 dp kp E D (pO rg) (rO rg) A CS → Calls Tryz.prog 24 #[.pointer (some ⟨kp, 0, none⟩), .int .i64 ii] W fun e w' => e = .returned (.int .i64 (ew : Nat)) ∧ Two X w' w1.heap.size 3 dp kp E DZ (pO rg) (rO rg) A CS ∧ Only (Old13 w1.heap.size W) W w') := fun W E h => by rw [hDZ, hew]; exact h.rspoil HI.out ii
        clear hDZ hew
        go_upto_region 28 with fail
        have AD : Hid (Two X wc.drew w1.heap.size 3 dp kp D D (pO rg) (rO rg) A CS) := AV.out.below (Below.refl _ _).drew
        have hS : (fun W : World => W.cell? ⟨A, 1, none⟩ = some (.int .i64 ii)) wc.drew := (HD.out _ _ _ _ _ AD.out).2.1
        refine wp_region_held (S := fun W => W.cell? ⟨A, 1, none⟩ = some (.int .i64 ii)) HMX.out ?_
        change wpAnyH _ _ _ _ _ _ _ _ wc.drew
        refine held_quiet 0 (v := ?v0q19) rfl (by kernel_rfl) (fun _ _ _ h => h) (by assumption) rfl ?hy0q19 ?rest0q19
        case hy0q19 => (intro wS hSw; (try dsimp only at hSw); go_simp; try with_reducible rfl)
        try simp only [Act.put, List.setIfInBounds_toArray, List.set_cons_zero, List.set_cons_succ]
        refine held_quiet 1 (v := ?v1q20) rfl (by kernel_rfl) (fun _ _ _ h => h) (by assumption) rfl ?hy1q20 ?rest1q20
        case hy1q20 => (intro wS hSw; (try dsimp only at hSw); go_simp; try with_reducible rfl)
        try simp only [Act.put, List.setIfInBounds_toArray, List.set_cons_zero, List.set_cons_succ]
        refine held_quiet 2 (v := ?v2q21) rfl (by kernel_rfl) (fun _ _ _ h => h) (by assumption) rfl ?hy2q21 ?rest2q21
        case hy2q21 => (intro wS hSw; (try dsimp only at hSw); go_simp; try with_reducible rfl)
        try simp only [Act.put, List.setIfInBounds_toArray, List.set_cons_zero, List.set_cons_succ]
        refine held_quiet 4 (v := ?v4q22) rfl (by kernel_rfl) (fun _ _ _ h => h) (by assumption) rfl ?hy4q22 ?rest4q22
        case hy4q22 => (intro wS hSw; (try dsimp only at hSw); go_simp; try with_reducible rfl)
        try simp only [Act.put, List.setIfInBounds_toArray, List.set_cons_zero, List.set_cons_succ]
        refine held_quiet 5 (v := ?v5q23) rfl (by kernel_rfl) (fun _ _ _ h => h) (by assumption) rfl ?hy5q23 ?rest5q23
        case hy5q23 => (intro wS hSw; (try dsimp only at hSw); go_simp; try with_reducible rfl)
        try simp only [Act.put, List.setIfInBounds_toArray, List.set_cons_zero, List.set_cons_succ]
        refine held_quiet 6 (v := ?v6q24) rfl (by kernel_rfl) (fun _ _ _ h => h) (by assumption) rfl ?hy6q24 ?rest6q24
        case hy6q24 => (intro wS hSw; (try dsimp only at hSw); go_simp; try with_reducible rfl)
        try simp only [Act.put, List.setIfInBounds_toArray, List.set_cons_zero, List.set_cons_succ]
        refine held_one 3 rfl (by kernel_rfl) ?_
        go_wp2_with (go_at_call 23; refine (HW1.out _ _ AD.out).mono ?_; rintro e W2 ⟨rfl, t2, o2⟩)
        have T2 : Hid (Two X W2 w1.heap.size 3 dp kp DZ D (pO rg) (rO rg) A CS) := t2
        have B2 : Hid (Below w1.heap.size w1 W2) := (BV.out.drew).trans (old13 o2 BV.out.size (Nat.le_refl _))
        clear t2 o2 hS
        have hS2 : (fun W : World => W.cell? ⟨A, 1, none⟩ = some (.int .i64 ii)) W2 := (HD.out _ _ _ _ _ T2.out).2.1
        try refine ⟨hS2, ?_⟩
        refine held_one 7 rfl (by kernel_rfl) ?_
        go_wp2_with (go_at_call 24; refine (HW2.out _ _ T2.out).mono ?_; rintro e W3 ⟨rfl, t3, o3⟩)
        have TZ : Hid (Two X W3 w1.heap.size 3 dp kp DZ DZ (pO rg) (rO rg) A CS) := t3
        have BZ : Hid (Below w1.heap.size w1 W3) := B2.out.trans (old13 o3 B2.out.size (Nat.le_refl _))
        clear t3 o3 hS2
        have hS3 : (fun W : World => W.cell? ⟨A, 1, none⟩ = some (.int .i64 ii)) W3 := (HD.out _ _ _ _ _ TZ.out).2.1
        try refine ⟨hS3, ?_⟩
        refine held_quiet 8 (v := ?v8q25) rfl (by kernel_rfl) (fun _ _ _ h => h) (by assumption) rfl ?hy8q25 ?rest8q25
        case hy8q25 => (intro wS hSw; (try dsimp only at hSw); go_simp; try with_reducible rfl)
        try simp only [Act.put, List.setIfInBounds_toArray, List.set_cons_zero, List.set_cons_succ]
        refine held_done (by kernel_rfl) ?_
        clear hS3 T2 B2
        go_wp2_with fail
        go_meet
        exact ⟨DZ, TZ.out, IZ.out, BZ.out⟩
    have k6 : (κ == 6) = false := by rw [beq_eq_false_iff_ne]; exact h6
    by_cases h7 : κ = 7
    · subst h7
      as_aux_lemma =>
        obtain ⟨DZ, hDZ⟩ : ∃ DZ, DZ = D.die := ⟨_, rfl⟩
        have IZ : Hid (Inv13 DZ N (3 * k + 2)) := by rw [hDZ]; exact HI.out.die
        have hsv := AV.out.die
        go_wp2_with fail
        refine hsv.mono ?_
        rintro e W2 ⟨rfl, t2, o2⟩
        have B2 : Below w1.heap.size w1 W2 := BV.out.trans (old13 o2 BV.out.size (Nat.le_refl _))
        obtain ⟨⟨t3, o3⟩, ⟨v3, c3⟩, f3⟩ := t2.gone
        have TZ : Hid (Two X (W2.setCell ⟨kp, 3, none⟩ (.bool true)) w1.heap.size 3 dp kp DZ DZ (pO rg) (rO rg) A CS) := by rw [hDZ]; exact t3
        have BZ : Hid (Below w1.heap.size w1 (W2.setCell ⟨kp, 3, none⟩ (.bool true))) := B2.trans (old13 o3 B2.size (Nat.le_refl _))
        clear hsv t2 o2 t3 o3 B2 hDZ d0
        go_wp2_with fail
        go_meet
        exact ⟨DZ, TZ.out, IZ.out, BZ.out⟩
    have k7 : (κ == 7) = false := by rw [beq_eq_false_iff_ne]; exact h7
    by_cases h8 : κ = 8
    · subst h8
      as_aux_lemma =>
        obtain ⟨DZ, hDZ⟩ : ∃ DZ, DZ = (Ri.formatS D).2 := ⟨_, rfl⟩
        have IZ : Hid (Inv13 DZ N (3 * k + 2)) := by rw [hDZ]; exact HI.out.format HN.out.2.2
        obtain ⟨ew, hew⟩ : ∃ ew, ew = (Ri.formatS D).1 := ⟨_, rfl⟩
        have hww : ((ew : Int) != (ew : Int)) = false := by simp
        have hsv := AV.out.format (by decide) HI.out (by have := HK.out; omega)
        have HW2 : Hid (∀ W E, Two X W w1.heap.size 3 dp kp E D (pO rg) (rO rg) A CS → Calls Tryz.prog 13 #[.pointer (some ⟨kp, 0, none⟩)] W fun e w' => e = .returned (.int .i64 (ew : Nat)) ∧ Two X w' w1.heap.size 3 dp kp E DZ (pO rg) (rO rg) A CS ∧ Only (Old13 w1.heap.size W) W w') := fun W E h => by rw [hDZ, hew]; exact h.rformat (by decide) HI.out (by have := HK.out; omega)
        rw [← hew, ← hDZ] at hsv
        clear hDZ hew
        go_wp2_with fail
        refine hsv.mono ?_
        rintro e W2 ⟨rfl, t2, o2⟩
        have B2 : Hid (Below w1.heap.size w1 W2) := BV.out.trans (old13 o2 BV.out.size (Nat.le_refl _))
        have hsv2 := HW2.out _ _ t2
        clear t2 o2 hsv d0
        go_wp2_with fail
        refine hsv2.mono ?_
        rintro e W3 ⟨rfl, t3, o3⟩
        have TZ : Hid (Two X W3 w1.heap.size 3 dp kp DZ DZ (pO rg) (rO rg) A CS) := t3
        have BZ : Hid (Below w1.heap.size w1 W3) := B2.out.trans (old13 o3 B2.out.size (Nat.le_refl _))
        clear t3 o3 hsv2
        go_wp2_with fail
        go_meet
        exact ⟨DZ, TZ.out, IZ.out, BZ.out⟩
    have k8 : (κ == 8) = false := by rw [beq_eq_false_iff_ne]; exact h8
    clear h4 h5 h6 h7 h8
    as_aux_lemma =>
      obtain ⟨DZ, hDZ⟩ : ∃ DZ, DZ = D := ⟨_, rfl⟩
      have IZ : Hid (Inv13 DZ N (3 * k + 2)) := by rw [hDZ]; exact HI.out.next
      have TZ : Hid (Two X wc w1.heap.size 3 dp kp DZ DZ (pO rg) (rO rg) A CS) := by rw [hDZ]; exact AV.out
      have BZ : Hid (Below w1.heap.size w1 wc) := BV.out
      clear hDZ AV BV HI
      go_wp2_with fail
      go_meet
      exact ⟨DZ, TZ.out, IZ.out, BZ.out⟩
  case rest =>
  obtain ⟨wx, hwx⟩ : ∃ wx, wx = wc := ⟨_, rfl⟩
  subst hwx
  obtain ⟨D2, tz, iz, bz⟩ := hcut
  have T2 : Hid (Two X wx w1.heap.size 3 dp kp D2 D2 (pO rg) (rO rg) A CS) := tz
  have I2 : Hid (Inv13 D2 N (3 * k + 2)) := iz
  have B2 : Hid (Below w1.heap.size w1 wx) := bz
  clear tz iz bz AV BV HI d0
  go_upto_if 160 with fail
  go_cut [8, 11, 18, 19, 20, 21, 22, 23] from 161 to 282 (fun s8 s11 s18 s19 s20 s21 s22 s23 wy => ∃ rz : Rg, s8 = pV rz ∧ s11 = sV rz ∧ Two X wy w1.heap.size 3 dp kp D2 D2 (pO rz) (rO rz) A CS ∧ rgOk N rz ∧ Below w1.heap.size w1 wy)
  case first =>
    cases ag with
    | false =>
      as_aux_lemma =>
        go_wp2_with fail
        go_meet
        exact ⟨rg, rfl, rfl, T2.out, HOk.out, B2.out⟩
    | true =>
      as_aux_lemma =>
        have hop := T2.out.open1 (by decide) I2.out.goes
        obtain ⟨eo, heo⟩ : ∃ eo, eo = Ri.openE D2 := ⟨_, rfl⟩
        rw [← heo] at hop
        have hoo : ((eo : Int) != (eo : Int)) = false := by simp
        go_wp2_with fail
        refine hop.mono ?_
        rintro e w9 ⟨po9, a9', c9', k9', rfl, ht9, ho9, hrec9, hb9⟩
        have B9 : Hid (Below w1.heap.size w1 w9) := below2 B2.out hb9
        have HO9 : Hid (Opened D2 po9 c9') := ho9
        have HR9 : Hid (RecsR w9 a9' c9' (fun j => Ri.recT D2 (Ri.nth (Ri.openT D2) (j + 1)))) := hrec9
        have hor := ht9.ropen1 (by decide) I2.out.goes
        rw [← heo] at hor
        clear ht9 ho9 hb9 hop heo hrec9
        go_wp2_with fail
        refine hor.mono ?_
        rintro e w10' ⟨ro10, a10', c10', k10', rfl, ht10, ho10, hrec10, hb10⟩
        have B10 : Hid (Below w1.heap.size w1 w10') := below2 B9.out hb10
        have HR9' : Hid (RecsR w10' a9' c9' (fun j => Ri.recT D2 (Ri.nth (Ri.openT D2) (j + 1)))) := HR9.out.below hb10
        have hc9 : c9' ≤ 10000 := by
          rcases HO9.out with ⟨_, _, h0⟩ | ⟨_, h0, _⟩
          · omega
          · have h1 := Ri.cnt_le D2 (Ri.openT D2) (Ri.slots D2.safe.length)
            have h2 : Ri.openC D2 ≤ Ri.slots D2.safe.length := h1
            rw [I2.out.len] at h2
            have h3 := HN.out.2.1
            unfold Ri.slots at h2
            omega
        obtain ⟨hcc, rz, rfl, rfl, hpv, hsv, hok⟩ := opened_both I2.out.len HO9.out ho10
        subst hcc
        have hsm := same13_yes a9' a10' c9' k9' k10' _ w10' hc9 HR9'.out hrec10 (fun j _ => rec_small D2 _)
        rw [hpv, hsv]
        have T10 : Hid (Two X w10' w1.heap.size 3 dp kp D2 D2 (pO rz) (rO rz) A CS) := ht10
        have HOz : Hid (rgOk N rz) := hok
        clear ht10 ho10 hb10 hor hpv hsv hok hrec10 HR9 HR9' HO9 hc9
        rcases rz with _ | ⟨rp, sp, t, c⟩
        · rw [pV_none, sV_none]
          go_wp2_with fail
          refine hsm.mono ?_
          rintro e w11 ⟨rfl, hb11⟩
          have T11 : Hid (Two X w11 w1.heap.size 3 dp kp D2 D2 (pO none) (rO none) A CS) := T10.out.below hb11
          have B11 : Hid (Below w1.heap.size w1 w11) := below2 B10.out hb11
          clear hb11 hsm
          go_wp2
          go_meet
          exact ⟨none, rfl, rfl, T11.out, HOz.out, B11.out⟩
        · rw [pV_some, sV_some]
          go_wp2_with fail
          refine hsm.mono ?_
          rintro e w11 ⟨rfl, hb11⟩
          have T11 : Hid (Two X w11 w1.heap.size 3 dp kp D2 D2 (pO (some (rp, sp, t, c))) (rO (some (rp, sp, t, c))) A CS) := T10.out.below hb11
          have B11 : Hid (Below w1.heap.size w1 w11) := below2 B10.out hb11
          clear hb11 hsm
          go_wp2
          go_meet
          exact ⟨some (rp, sp, t, c), rfl, rfl, T11.out, HOz.out, B11.out⟩
  case rest =>
  obtain ⟨wy, hwy⟩ : ∃ wy, wy = wc := ⟨_, rfl⟩
  subst hwy
  obtain ⟨rz, rfl, rfl, tz, oz, bz⟩ := hcut
  have T3 : Hid (Two X wy w1.heap.size 3 dp kp D2 D2 (pO rz) (rO rz) A CS) := tz
  have O3 : Hid (rgOk N rz) := oz
  have B3 : Hid (Below w1.heap.size w1 wy) := bz
  clear tz oz bz T2 B2 HOk
  rcases rz with _ | ⟨rp, sp, t, c⟩
  case none =>
    as_aux_lemma =>
      rw [pV_none, sV_none]
      go_wp2
      go_roundg (n - (k + 1))
      case measure => have := HK.out; omega
      case rel => exact ⟨k + 1, D2, none, by have := HK.out; omega, rfl, rfl, rfl, by go_num, T3.out.left _ _, I2.out.next.next, trivial, B3.out⟩
  case some =>
  rw [pV_some, sV_some]
  have HG : Hid (RgOk N t c) := O3.out
  have T4 : Hid (Two X wy w1.heap.size 3 dp kp D2 D2 (some (rp, t, c)) (some (sp, t, c)) A CS) := T3.out
  clear O3 T3
  go_upto_region 46 with fail
  obtain ⟨d0, _, _, _, _⟩ := HD.out _ _ _ _ _ T4.out
  go_cut [209] from 202 to 282 (fun s209 wx => ∃ b : Bool, s209 = .bool b ∧ wx = wy)
  case first =>
    by_cases h0 : κ = 0
    · subst h0
      go_wp2
      go_meet
      exact ⟨_, rfl, rfl⟩
    · have k0 : (κ == 0) = false := by rw [beq_eq_false_iff_ne]; exact h0
      clear h0
      go_wp2
      go_meet
      exact ⟨_, rfl, rfl⟩
  case rest =>
  obtain ⟨bb, rfl, hwq⟩ := hcut
  have hwq' := hwq.symm
  subst hwq'
  clear hwq
  go_upto_if 209 with fail
  go_cut [24, 25, 26, 27, 28] from 210 to 282 (fun s24 s25 s26 s27 s28 wz => ∃ (D4 : Dr) (c4 : Nat), Two X wz w1.heap.size 3 dp kp D4 D4 (some (rp, t, c4)) (some (sp, t, c4)) A CS ∧ RgOk N t c4 ∧ Inv13 D4 N (3 * k + 3) ∧ Below w1.heap.size w1 wz)
  case first =>
    cases bb with
    | false =>
      as_aux_lemma =>
        obtain ⟨d0, _, _, _, _⟩ := HD.out _ _ _ _ _ T4.out
        go_wp2_with fail
        go_meet
        exact ⟨D2, c, T4.out, HG.out, I2.out.next, B3.out⟩
    | true =>
      by_cases h0 : κ = 0
      · subst h0
        as_aux_lemma =>
          have hin : RecIn ii (Ri.someN sn) (Ri.someP s) := Ri.someP_in (bounds_i64 HX.out.1.i) sn s
          have hli : RecLight (Ri.someN sn) (Ri.someP s) := Ri.someP_light sn s
          have hm9 : Ri.someN sn ≤ 1000 := Nat.le_trans (Nat.min_le_right _ _) (by decide)

          obtain ⟨DZ, hDZ⟩ : ∃ DZ, DZ = (Ri.appS D2 t c ii (Ri.someN sn) (Ri.someP s)).2 := ⟨_, rfl⟩
          obtain ⟨cz, hcz⟩ : ∃ cz, cz = Ri.appC D2 t c ii (Ri.someN sn) (Ri.someP s) := ⟨_, rfl⟩
          obtain ⟨ez, hez⟩ : ∃ ez, ez = (Ri.appS D2 t c ii (Ri.someN sn) (Ri.someP s)).1 := ⟨_, rfl⟩
          obtain ⟨vz, hvz⟩ : ∃ vz, vz = Ri.appV D2 t c ii (Ri.someN sn) (Ri.someP s) := ⟨_, rfl⟩
          have IZ : Hid (Inv13 DZ N (3 * k + 3)) := by rw [hDZ]; exact I2.out.append t c ii _ _
          have GZ : Hid (RgOk N t cz) := by rw [hcz]; exact RgOk.app I2.out.len HG.out ii _ _
          have h1 : ((ez : Int) != (ez : Int)) = false := by simp
          have h2 : ((vz : Int) != (vz : Int)) = false := by simp
          have HW1 : Hid (∀ W0 W E a' c', Below W0.heap.size W0 W → Two X W0 w1.heap.size 3 dp kp D2 E (some (rp, t, c)) (some (sp, t, c)) A CS → PartsR W a' (Ri.someN sn) (Ri.someP s) → (0 < (Ri.someN sn) → ∀ x, a' = some x → x.block < w1.heap.size ∨ W0.heap.size ≤ x.block) → Calls Tryz.prog 28 #[.pointer (some ⟨rp, 0, none⟩), .int .i64 ii, .slice a' (Ri.someN sn) c'] W fun e w' => e = .returned (.tuple #[.int .u64 (vz : Nat), .int .i64 (ez : Nat)]) ∧ Two X w' w1.heap.size 3 dp kp DZ E (some (rp, t, cz)) (some (sp, t, c)) A CS ∧ Only (Old13 w1.heap.size W0) W w') := fun W0 W E a' c' hb h hp ha => by rw [hDZ, hez, hcz, hvz]; exact h.append hb I2.out (by have := HK.out; omega) HN.out.2.2 HG.out hin hli hp ha
          have HW2 : Hid (∀ W a' c', Two X W w1.heap.size 3 dp kp DZ D2 (some (rp, t, cz)) (some (sp, t, c)) A CS → PartsR W a' (Ri.someN sn) (Ri.someP s) → Calls Tryz.prog 29 #[.pointer (some ⟨sp, 0, none⟩), .int .i64 ii, .slice a' (Ri.someN sn) c'] W fun e w' => e = .returned (.tuple #[.int .u64 (vz : Nat), .int .i64 (ez : Nat)]) ∧ Two X w' w1.heap.size 3 dp kp DZ DZ (some (rp, t, cz)) (some (sp, t, cz)) A CS ∧ Only (Old13 w1.heap.size W) W w') := fun W a' c' h hp => by
            have := h.rappend (Below.refl _ _) I2.out (by have := HK.out; omega) HN.out.2.2 HG.out hin hp (cap := c')
            rw [← hDZ, ← hez, ← hcz, ← hvz] at this
            exact this
          have HTh : Hid (∀ W a' c', PartsR W a' (Ri.someN sn) (Ri.someP s) → Calls Tryz.prog 30 #[.slice a' (Ri.someN sn) c'] W fun e w' => ∃ a2 c2, e = .returned (.slice a2 (Ri.someN sn) c2) ∧ PartsR w' a2 (Ri.someN sn) (Ri.someP s) ∧ Below W.heap.size W w') := fun W a' c' hp => theirs13_any a' (Ri.someN sn) c' (Ri.someP s) W hm9 hp
          clear hDZ hcz hez hvz hin hli hm9

          have HSo : Hid (∀ W, Below w1.heap.size w1 W → Calls Tryz.prog 27 #[.slice sa sn sc] W fun e w' => ∃ a' c', e = .returned (.slice a' (Ri.someN sn) c') ∧ PartsR w' a' (Ri.someN sn) (Ri.someP s) ∧ (∀ x, a' = some x → W.heap.size ≤ x.block) ∧ Below W.heap.size W w') := fun W hW => some13_any sa sn sc s W HX.out.2.1 (HX.out.1.sr.below hW)
          obtain ⟨d0, d1, d2, d3, _⟩ := HD.out _ _ _ _ _ T4.out
          go_wp2_with fail
          refine (HSo.out _ B3.out).mono ?_
          rintro e W5 ⟨a5, c5, rfl, hp5, hn5, hb5⟩
          have C5 : Hid (Below wy.heap.size wy W5) := hb5
          have HP5 : Hid (PartsR W5 a5 (Ri.someN sn) (Ri.someP s)) := hp5
          have HA5 : Hid (0 < Ri.someN sn → ∀ x, a5 = some x → x.block < w1.heap.size ∨ wy.heap.size ≤ x.block) := fun _ x hx => .inr (hn5 x hx)
          obtain ⟨_, e1, _, _, _⟩ := HD.out _ _ _ _ _ (T4.out.below hb5)
          clear hp5 hn5 hb5 d0 d1 d2 d3
          go_wp2_with fail

          refine (HW1.out wy _ _ _ _ C5.out T4.out HP5.out HA5.out).mono ?_
          rintro e W6 ⟨rfl, t6, o6⟩
          have T6 : Hid (Two X W6 w1.heap.size 3 dp kp DZ D2 (some (rp, t, cz)) (some (sp, t, c)) A CS) := t6
          have B6 : Hid (Below w1.heap.size w1 W6) := (below2 B3.out C5.out).trans (old13 o6 B3.out.size C5.out.size)
          have HP6 : Hid (PartsR W6 a5 (Ri.someN sn) (Ri.someP s)) := fun j hj => HP5.out.only o6 (fun x hx e => by have := HA5.out (by omega) x hx; have := e; omega) j hj
          clear t6 o6
          go_upto_region 51 with fail
          have AD : Hid (Two X W6.drew w1.heap.size 3 dp kp DZ D2 (some (rp, t, cz)) (some (sp, t, c)) A CS) := T6.out.below (Below.refl _ _).drew
          have hS : (fun W : World => W.cell? ⟨A, 1, none⟩ = some (.int .i64 ii)) W6.drew := (HD.out _ _ _ _ _ AD.out).2.1
          refine wp_region_held (S := fun W => W.cell? ⟨A, 1, none⟩ = some (.int .i64 ii)) HMX.out ?_
          change wpAnyH _ _ _ _ _ _ _ _ W6.drew
          refine held_quiet 0 (v := ?v0q26) rfl (by kernel_rfl) (fun _ _ _ h => h) (by assumption) rfl ?hy0q26 ?rest0q26
          case hy0q26 => (intro wS hSw; (try dsimp only at hSw); go_simp; try with_reducible rfl)
          try simp only [Act.put, List.setIfInBounds_toArray, List.set_cons_zero, List.set_cons_succ]
          refine held_quiet 1 (v := ?v1q27) rfl (by kernel_rfl) (fun _ _ _ h => h) (by assumption) rfl ?hy1q27 ?rest1q27
          case hy1q27 => (intro wS hSw; (try dsimp only at hSw); go_simp; try with_reducible rfl)
          try simp only [Act.put, List.setIfInBounds_toArray, List.set_cons_zero, List.set_cons_succ]
          refine held_quiet 2 (v := ?v2q28) rfl (by kernel_rfl) (fun _ _ _ h => h) (by assumption) rfl ?hy2q28 ?rest2q28
          case hy2q28 => (intro wS hSw; (try dsimp only at hSw); go_simp; try with_reducible rfl)
          try simp only [Act.put, List.setIfInBounds_toArray, List.set_cons_zero, List.set_cons_succ]
          refine held_quiet 3 (v := ?v3q29) rfl (by kernel_rfl) (fun _ _ _ h => h) (by assumption) rfl ?hy3q29 ?rest3q29
          case hy3q29 => (intro wS hSw; (try dsimp only at hSw); go_simp; try with_reducible rfl)
          try simp only [Act.put, List.setIfInBounds_toArray, List.set_cons_zero, List.set_cons_succ]
          refine held_one 4 rfl (by kernel_rfl) ?_
          go_wp2_with (go_at_call 30; refine (HTh.out _ _ _ (HP6.out.below (Below.refl _ _).drew)).mono ?_; rintro e W7 ⟨a7, c7, rfl, hp7, hb7⟩)
          have T7 : Hid (Two X W7 w1.heap.size 3 dp kp DZ D2 (some (rp, t, cz)) (some (sp, t, c)) A CS) := AD.out.below hb7
          have B7 : Hid (Below w1.heap.size w1 W7) := below2 B6.out.drew hb7
          have HP7 : Hid (PartsR W7 a7 (Ri.someN sn) (Ri.someP s)) := hp7
          clear hp7 hb7 hS
          have hS2 : (fun W : World => W.cell? ⟨A, 1, none⟩ = some (.int .i64 ii)) W7 := (HD.out _ _ _ _ _ T7.out).2.1
          try refine ⟨hS2, ?_⟩
          refine held_one 5 rfl (by kernel_rfl) ?_
          go_wp2_with (go_at_call 29; refine (HW2.out _ _ _ T7.out HP7.out).mono ?_; rintro e W8 ⟨rfl, t8, o8⟩)
          have TZ : Hid (Two X W8 w1.heap.size 3 dp kp DZ DZ (some (rp, t, cz)) (some (sp, t, cz)) A CS) := t8
          have BZ : Hid (Below w1.heap.size w1 W8) := B7.out.trans (old13 o8 B7.out.size (Nat.le_refl _))
          clear t8 o8 hS2
          have hS3 : (fun W : World => W.cell? ⟨A, 1, none⟩ = some (.int .i64 ii)) W8 := (HD.out _ _ _ _ _ TZ.out).2.1
          try refine ⟨hS3, ?_⟩
          refine held_quiet 6 (v := ?v6q30) rfl (by kernel_rfl) (fun _ _ _ h => h) (by assumption) rfl ?hy6q30 ?rest6q30
          case hy6q30 => (intro wS hSw; (try dsimp only at hSw); go_simp; try with_reducible rfl)
          try simp only [Act.put, List.setIfInBounds_toArray, List.set_cons_zero, List.set_cons_succ]
          refine held_quiet 7 (v := ?v7q31) rfl (by kernel_rfl) (fun _ _ _ h => h) (by assumption) rfl ?hy7q31 ?rest7q31
          case hy7q31 => (intro wS hSw; (try dsimp only at hSw); go_simp; try with_reducible rfl)
          try simp only [Act.put, List.setIfInBounds_toArray, List.set_cons_zero, List.set_cons_succ]
          refine held_quiet 8 (v := ?v8q32) rfl (by kernel_rfl) (fun _ _ _ h => h) (by assumption) rfl ?hy8q32 ?rest8q32
          case hy8q32 => (intro wS hSw; (try dsimp only at hSw); go_simp; try with_reducible rfl)
          try simp only [Act.put, List.setIfInBounds_toArray, List.set_cons_zero, List.set_cons_succ]
          refine held_quiet 9 (v := ?v9q33) rfl (by kernel_rfl) (fun _ _ _ h => h) (by assumption) rfl ?hy9q33 ?rest9q33
          case hy9q33 => (intro wS hSw; (try dsimp only at hSw); go_simp; try with_reducible rfl)
          try simp only [Act.put, List.setIfInBounds_toArray, List.set_cons_zero, List.set_cons_succ]
          refine held_quiet 10 (v := ?v10q34) rfl (by kernel_rfl) (fun _ _ _ h => h) (by assumption) rfl ?hy10q34 ?rest10q34
          case hy10q34 => (intro wS hSw; (try dsimp only at hSw); go_simp; try with_reducible rfl)
          try simp only [Act.put, List.setIfInBounds_toArray, List.set_cons_zero, List.set_cons_succ]
          refine held_done (by kernel_rfl) ?_
          clear hS3
          go_wp2_with fail
          go_meet
          exact ⟨DZ, cz, TZ.out, GZ.out, IZ.out, BZ.out⟩
      · have k0 : (κ == 0) = false := by rw [beq_eq_false_iff_ne]; exact h0
        clear h0
        as_aux_lemma =>
          have hin : RecIn ii pn p := ⟨bounds_i64 HX.out.1.i, by have := HX.out.1.pm; unfold maxLen at this; dsimp only at this; omega, fun j hj => bounds_i64 (HX.out.1.pw j hj).1, fun j hj => bounds_i64 (HX.out.1.pw j hj).2.1⟩
          have hli : RecLight pn p := ⟨by have := HX.out.2.2.1; dsimp only at this; omega, HX.out.2.2.2.2⟩
          have hm9 : pn ≤ 1000 := by have := HX.out.2.2.1; dsimp only at this; omega

          obtain ⟨DZ, hDZ⟩ : ∃ DZ, DZ = (Ri.appS D2 t c ii pn p).2 := ⟨_, rfl⟩
          obtain ⟨cz, hcz⟩ : ∃ cz, cz = Ri.appC D2 t c ii pn p := ⟨_, rfl⟩
          obtain ⟨ez, hez⟩ : ∃ ez, ez = (Ri.appS D2 t c ii pn p).1 := ⟨_, rfl⟩
          obtain ⟨vz, hvz⟩ : ∃ vz, vz = Ri.appV D2 t c ii pn p := ⟨_, rfl⟩
          have IZ : Hid (Inv13 DZ N (3 * k + 3)) := by rw [hDZ]; exact I2.out.append t c ii _ _
          have GZ : Hid (RgOk N t cz) := by rw [hcz]; exact RgOk.app I2.out.len HG.out ii _ _
          have h1 : ((ez : Int) != (ez : Int)) = false := by simp
          have h2 : ((vz : Int) != (vz : Int)) = false := by simp
          have HW1 : Hid (∀ W0 W E a' c', Below W0.heap.size W0 W → Two X W0 w1.heap.size 3 dp kp D2 E (some (rp, t, c)) (some (sp, t, c)) A CS → PartsR W a' pn p → (0 < pn → ∀ x, a' = some x → x.block < w1.heap.size ∨ W0.heap.size ≤ x.block) → Calls Tryz.prog 28 #[.pointer (some ⟨rp, 0, none⟩), .int .i64 ii, .slice a' pn c'] W fun e w' => e = .returned (.tuple #[.int .u64 (vz : Nat), .int .i64 (ez : Nat)]) ∧ Two X w' w1.heap.size 3 dp kp DZ E (some (rp, t, cz)) (some (sp, t, c)) A CS ∧ Only (Old13 w1.heap.size W0) W w') := fun W0 W E a' c' hb h hp ha => by rw [hDZ, hez, hcz, hvz]; exact h.append hb I2.out (by have := HK.out; omega) HN.out.2.2 HG.out hin hli hp ha
          have HW2 : Hid (∀ W a' c', Two X W w1.heap.size 3 dp kp DZ D2 (some (rp, t, cz)) (some (sp, t, c)) A CS → PartsR W a' pn p → Calls Tryz.prog 29 #[.pointer (some ⟨sp, 0, none⟩), .int .i64 ii, .slice a' pn c'] W fun e w' => e = .returned (.tuple #[.int .u64 (vz : Nat), .int .i64 (ez : Nat)]) ∧ Two X w' w1.heap.size 3 dp kp DZ DZ (some (rp, t, cz)) (some (sp, t, cz)) A CS ∧ Only (Old13 w1.heap.size W) W w') := fun W a' c' h hp => by
            have := h.rappend (Below.refl _ _) I2.out (by have := HK.out; omega) HN.out.2.2 HG.out hin hp (cap := c')
            rw [← hDZ, ← hez, ← hcz, ← hvz] at this
            exact this
          have HTh : Hid (∀ W a' c', PartsR W a' pn p → Calls Tryz.prog 30 #[.slice a' pn c'] W fun e w' => ∃ a2 c2, e = .returned (.slice a2 pn c2) ∧ PartsR w' a2 pn p ∧ Below W.heap.size W w') := fun W a' c' hp => theirs13_any a' pn c' p W hm9 hp
          clear hDZ hcz hez hvz hin hli hm9

          obtain ⟨d0, d1, d2, d3, _⟩ := HD.out _ _ _ _ _ T4.out
          have C5 : Hid (Below wy.heap.size wy wy) := Below.refl _ _
          have HP5 : Hid (PartsR wy pa pn p) := HX.out.1.pr.below B3.out
          have HA5 : Hid (0 < pn → ∀ x, pa = some x → x.block < w1.heap.size ∨ wy.heap.size ≤ x.block) := fun h0 x hx => by
            have hpr := HX.out.1.pr
            dsimp only at hpr
            exact .inl (PartsR.lt hpr h0 x hx)
          go_wp2_with fail

          refine (HW1.out wy _ _ _ _ C5.out T4.out HP5.out HA5.out).mono ?_
          rintro e W6 ⟨rfl, t6, o6⟩
          have T6 : Hid (Two X W6 w1.heap.size 3 dp kp DZ D2 (some (rp, t, cz)) (some (sp, t, c)) A CS) := t6
          have B6 : Hid (Below w1.heap.size w1 W6) := (below2 B3.out C5.out).trans (old13 o6 B3.out.size C5.out.size)
          have HP6 : Hid (PartsR W6 pa pn p) := fun j hj => HP5.out.only o6 (fun x hx e => by have := HA5.out (by omega) x hx; have := e; omega) j hj
          clear t6 o6
          go_upto_region 51 with fail
          have AD : Hid (Two X W6.drew w1.heap.size 3 dp kp DZ D2 (some (rp, t, cz)) (some (sp, t, c)) A CS) := T6.out.below (Below.refl _ _).drew
          have hS : (fun W : World => W.cell? ⟨A, 1, none⟩ = some (.int .i64 ii)) W6.drew := (HD.out _ _ _ _ _ AD.out).2.1
          refine wp_region_held (S := fun W => W.cell? ⟨A, 1, none⟩ = some (.int .i64 ii)) HMX.out ?_
          change wpAnyH _ _ _ _ _ _ _ _ W6.drew
          refine held_quiet 0 (v := ?v0q35) rfl (by kernel_rfl) (fun _ _ _ h => h) (by assumption) rfl ?hy0q35 ?rest0q35
          case hy0q35 => (intro wS hSw; (try dsimp only at hSw); go_simp; try with_reducible rfl)
          try simp only [Act.put, List.setIfInBounds_toArray, List.set_cons_zero, List.set_cons_succ]
          refine held_quiet 1 (v := ?v1q36) rfl (by kernel_rfl) (fun _ _ _ h => h) (by assumption) rfl ?hy1q36 ?rest1q36
          case hy1q36 => (intro wS hSw; (try dsimp only at hSw); go_simp; try with_reducible rfl)
          try simp only [Act.put, List.setIfInBounds_toArray, List.set_cons_zero, List.set_cons_succ]
          refine held_quiet 2 (v := ?v2q37) rfl (by kernel_rfl) (fun _ _ _ h => h) (by assumption) rfl ?hy2q37 ?rest2q37
          case hy2q37 => (intro wS hSw; (try dsimp only at hSw); go_simp; try with_reducible rfl)
          try simp only [Act.put, List.setIfInBounds_toArray, List.set_cons_zero, List.set_cons_succ]
          refine held_quiet 3 (v := ?v3q38) rfl (by kernel_rfl) (fun _ _ _ h => h) (by assumption) rfl ?hy3q38 ?rest3q38
          case hy3q38 => (intro wS hSw; (try dsimp only at hSw); go_simp; try with_reducible rfl)
          try simp only [Act.put, List.setIfInBounds_toArray, List.set_cons_zero, List.set_cons_succ]
          refine held_one 4 rfl (by kernel_rfl) ?_
          go_wp2_with (go_at_call 30; refine (HTh.out _ _ _ (HP6.out.below (Below.refl _ _).drew)).mono ?_; rintro e W7 ⟨a7, c7, rfl, hp7, hb7⟩)
          have T7 : Hid (Two X W7 w1.heap.size 3 dp kp DZ D2 (some (rp, t, cz)) (some (sp, t, c)) A CS) := AD.out.below hb7
          have B7 : Hid (Below w1.heap.size w1 W7) := below2 B6.out.drew hb7
          have HP7 : Hid (PartsR W7 a7 pn p) := hp7
          clear hp7 hb7 hS
          have hS2 : (fun W : World => W.cell? ⟨A, 1, none⟩ = some (.int .i64 ii)) W7 := (HD.out _ _ _ _ _ T7.out).2.1
          try refine ⟨hS2, ?_⟩
          refine held_one 5 rfl (by kernel_rfl) ?_
          go_wp2_with (go_at_call 29; refine (HW2.out _ _ _ T7.out HP7.out).mono ?_; rintro e W8 ⟨rfl, t8, o8⟩)
          have TZ : Hid (Two X W8 w1.heap.size 3 dp kp DZ DZ (some (rp, t, cz)) (some (sp, t, cz)) A CS) := t8
          have BZ : Hid (Below w1.heap.size w1 W8) := B7.out.trans (old13 o8 B7.out.size (Nat.le_refl _))
          clear t8 o8 hS2
          have hS3 : (fun W : World => W.cell? ⟨A, 1, none⟩ = some (.int .i64 ii)) W8 := (HD.out _ _ _ _ _ TZ.out).2.1
          try refine ⟨hS3, ?_⟩
          refine held_quiet 6 (v := ?v6q39) rfl (by kernel_rfl) (fun _ _ _ h => h) (by assumption) rfl ?hy6q39 ?rest6q39
          case hy6q39 => (intro wS hSw; (try dsimp only at hSw); go_simp; try with_reducible rfl)
          try simp only [Act.put, List.setIfInBounds_toArray, List.set_cons_zero, List.set_cons_succ]
          refine held_quiet 7 (v := ?v7q40) rfl (by kernel_rfl) (fun _ _ _ h => h) (by assumption) rfl ?hy7q40 ?rest7q40
          case hy7q40 => (intro wS hSw; (try dsimp only at hSw); go_simp; try with_reducible rfl)
          try simp only [Act.put, List.setIfInBounds_toArray, List.set_cons_zero, List.set_cons_succ]
          refine held_quiet 8 (v := ?v8q41) rfl (by kernel_rfl) (fun _ _ _ h => h) (by assumption) rfl ?hy8q41 ?rest8q41
          case hy8q41 => (intro wS hSw; (try dsimp only at hSw); go_simp; try with_reducible rfl)
          try simp only [Act.put, List.setIfInBounds_toArray, List.set_cons_zero, List.set_cons_succ]
          refine held_quiet 9 (v := ?v9q42) rfl (by kernel_rfl) (fun _ _ _ h => h) (by assumption) rfl ?hy9q42 ?rest9q42
          case hy9q42 => (intro wS hSw; (try dsimp only at hSw); go_simp; try with_reducible rfl)
          try simp only [Act.put, List.setIfInBounds_toArray, List.set_cons_zero, List.set_cons_succ]
          refine held_quiet 10 (v := ?v10q43) rfl (by kernel_rfl) (fun _ _ _ h => h) (by assumption) rfl ?hy10q43 ?rest10q43
          case hy10q43 => (intro wS hSw; (try dsimp only at hSw); go_simp; try with_reducible rfl)
          try simp only [Act.put, List.setIfInBounds_toArray, List.set_cons_zero, List.set_cons_succ]
          refine held_done (by kernel_rfl) ?_
          clear hS3
          go_wp2_with fail
          go_meet
          exact ⟨DZ, cz, TZ.out, GZ.out, IZ.out, BZ.out⟩
  case rest =>
  obtain ⟨wz, hwz⟩ : ∃ wz, wz = wc := ⟨_, rfl⟩
  subst hwz
  obtain ⟨D4, c4, tz, gz, iz, bz⟩ := hcut
  have T5 : Hid (Two X wz w1.heap.size 3 dp kp D4 D4 (some (rp, t, c4)) (some (sp, t, c4)) A CS) := tz
  have HG4 : Hid (RgOk N t c4) := gz
  have I4 : Hid (Inv13 D4 N (3 * k + 3)) := iz
  have B4 : Hid (Below w1.heap.size w1 wz) := bz
  clear tz gz iz bz T4 HG I2 B3
  have T4 : Hid (Two X wz w1.heap.size 3 dp kp D4 D4 (some (rp, t, c4)) (some (sp, t, c4)) A CS) := T5.out
  by_cases h2 : κ = 2
  · subst h2
    as_aux_lemma =>
      obtain ⟨qq, hqq⟩ : ∃ qq : Nat, (qq : Int) = IntKind.u64.wrap ((t : Int) + IntKind.u64.wrap ii) := ⟨(IntKind.u64.wrap ((t : Int) + IntKind.u64.wrap ii)).toNat, by rw [IntKind.wrap_u64]; omega⟩
      have hqb : qq < 18446744073709551616 := by rw [IntKind.wrap_u64] at hqq; omega
      have hq2 := hqq.symm
      obtain ⟨DZ, hDZ⟩ : ∃ DZ, DZ = (Ri.trimS D4 t c4 qq).2 := ⟨_, rfl⟩
      obtain ⟨ez, hez⟩ : ∃ ez, ez = (Ri.trimS D4 t c4 qq).1 := ⟨_, rfl⟩
      obtain ⟨tz, htz⟩ : ∃ tz, tz = (Ri.trimT D4 t c4 qq).1 := ⟨_, rfl⟩
      obtain ⟨cz, hcz⟩ : ∃ cz, cz = (Ri.trimT D4 t c4 qq).2 := ⟨_, rfl⟩
      have IZ : Hid (Inv13 DZ N (3 * k + 4)) := by rw [hDZ]; exact I4.out.trim t c4 qq
      have GZ : Hid (RgOk N tz cz) := by rw [htz, hcz]; exact HG4.out.trimmed hqb
      have h1 : ((ez : Int) != (ez : Int)) = false := by simp
      have HW1 : Hid (∀ W, Two X W w1.heap.size 3 dp kp D4 D4 (some (rp, t, c4)) (some (sp, t, c4)) A CS → Calls Tryz.prog 31 #[.pointer (some ⟨rp, 0, none⟩), .int .u64 (qq : Nat)] W fun e w' => e = .returned (.int .i64 (ez : Nat)) ∧ Two X w' w1.heap.size 3 dp kp DZ D4 (some (rp, tz, cz)) (some (sp, t, c4)) A CS ∧ Only (Old13 w1.heap.size W) W w') := fun W h => by rw [hDZ, hez, htz, hcz]; exact h.trim I4.out (by have := HK.out; omega) HN.out.2.2 HG4.out qq hqb
      have HW2 : Hid (∀ W, Two X W w1.heap.size 3 dp kp DZ D4 (some (rp, tz, cz)) (some (sp, t, c4)) A CS → Calls Tryz.prog 32 #[.pointer (some ⟨sp, 0, none⟩), .int .u64 (qq : Nat)] W fun e w' => e = .returned (.int .i64 (ez : Nat)) ∧ Two X w' w1.heap.size 3 dp kp DZ DZ (some (rp, tz, cz)) (some (sp, tz, cz)) A CS ∧ Only (Old13 w1.heap.size W) W w') := fun W h => by
        have := h.rtrim I4.out (by have := HK.out; omega) HN.out.2.2 HG4.out qq hqb
        rw [← hDZ, ← hez, ← htz, ← hcz] at this
        exact this
      obtain ⟨D6, hD6⟩ : ∃ D6, D6 = DZ := ⟨_, rfl⟩
      obtain ⟨t6, ht6⟩ : ∃ t6, t6 = tz := ⟨_, rfl⟩
      obtain ⟨c6, hc6⟩ : ∃ c6, c6 = cz := ⟨_, rfl⟩
      have HE6 : Hid (D6 = DZ ∧ t6 = tz ∧ c6 = cz) := ⟨hD6, ht6, hc6⟩
      have I6 : Hid (Inv13 D6 N (3 * (k + 1) + 1)) := by rw [hD6]; exact IZ.out
      have G6 : Hid (RgOk N t6 c6) := by rw [ht6, hc6]; exact GZ.out
      clear hDZ hez htz hcz hqq hqb hD6 ht6 hc6
      go_upto_region 54 with fail
      have AD : Hid (Two X wz.drew w1.heap.size 3 dp kp D4 D4 (some (rp, t, c4)) (some (sp, t, c4)) A CS) := T4.out.below (Below.refl _ _).drew
      have s0 := (AD.out.rcells (by decide)).1
      have hS : (fun W => W.cell? ⟨A, 0, none⟩ = some (.int .i64 2) ∧ W.cell? ⟨A, 1, none⟩ = some (.int .i64 ii)) wz.drew := ⟨(HD.out _ _ _ _ _ AD.out).1, (HD.out _ _ _ _ _ AD.out).2.1⟩
      refine wp_region_held (S := fun W => W.cell? ⟨A, 0, none⟩ = some (.int .i64 2) ∧ W.cell? ⟨A, 1, none⟩ = some (.int .i64 ii)) HMX.out ?_
      change wpAnyH _ _ _ _ _ _ _ _ wz.drew
      refine held_quiet 0 (v := ?v0q44) rfl (by kernel_rfl) (fun _ _ _ h => h) (by assumption) rfl ?hy0q44 ?rest0q44
      case hy0q44 => (intro wS hSw; (try dsimp only at hSw); go_simp; try with_reducible rfl)
      try simp only [Act.put, List.setIfInBounds_toArray, List.set_cons_zero, List.set_cons_succ]
      refine held_quiet 1 (v := ?v1q45) rfl (by kernel_rfl) (fun _ _ _ h => h) (by assumption) rfl ?hy1q45 ?rest1q45
      case hy1q45 => (intro wS hSw; (try dsimp only at hSw); go_simp; try with_reducible rfl)
      try simp only [Act.put, List.setIfInBounds_toArray, List.set_cons_zero, List.set_cons_succ]
      refine held_quiet 2 (v := ?v2q46) rfl (by kernel_rfl) (fun _ _ _ h => h) (by assumption) rfl ?hy2q46 ?rest2q46
      case hy2q46 => (intro wS hSw; (try dsimp only at hSw); go_simp; try with_reducible rfl)
      try simp only [Act.put, List.setIfInBounds_toArray, List.set_cons_zero, List.set_cons_succ]
      refine held_quiet 3 (v := ?v3q47) rfl (by kernel_rfl) (fun _ _ _ h => h) (by assumption) rfl ?hy3q47 ?rest3q47
      case hy3q47 => (intro wS hSw; (try dsimp only at hSw); go_simp; try with_reducible rfl)
      try simp only [Act.put, List.setIfInBounds_toArray, List.set_cons_zero, List.set_cons_succ]
      refine held_quiet 4 (v := ?v4q48) rfl (by kernel_rfl) (fun _ _ _ h => h) (by assumption) rfl ?hy4q48 ?rest4q48
      case hy4q48 => (intro wS hSw; (try dsimp only at hSw); go_simp; try with_reducible rfl)
      try simp only [Act.put, List.setIfInBounds_toArray, List.set_cons_zero, List.set_cons_succ]
      refine held_quiet 5 (v := ?v5q49) rfl (by kernel_rfl) (fun _ _ _ h => h) (by assumption) rfl ?hy5q49 ?rest5q49
      case hy5q49 => (intro wS hSw; (try dsimp only at hSw); go_simp; try with_reducible rfl)
      try simp only [Act.put, List.setIfInBounds_toArray, List.set_cons_zero, List.set_cons_succ]
      refine held_quiet 6 (v := ?v6q50) rfl (by kernel_rfl) (fun _ _ _ h => h) (by assumption) rfl ?hy6q50 ?rest6q50
      case hy6q50 => (intro wS hSw; (try dsimp only at hSw); go_simp; try with_reducible rfl)
      try simp only [Act.put, List.setIfInBounds_toArray, List.set_cons_zero, List.set_cons_succ]
      refine held_quiet 7 (v := ?v7q51) rfl (by kernel_rfl) (fun _ _ _ h => h) (by assumption) rfl ?hy7q51 ?rest7q51
      case hy7q51 => (intro wS hSw; (try dsimp only at hSw); go_simp; try with_reducible rfl)
      try simp only [Act.put, List.setIfInBounds_toArray, List.set_cons_zero, List.set_cons_succ]
      refine held_quiet 9 (v := ?v9q52) rfl (by kernel_rfl) (fun _ _ _ h => h) (by assumption) rfl ?hy9q52 ?rest9q52
      case hy9q52 => (intro wS hSw; (try dsimp only at hSw); go_simp; try with_reducible rfl)
      try simp only [Act.put, List.setIfInBounds_toArray, List.set_cons_zero, List.set_cons_succ]
      refine held_quiet 10 (v := ?v10q53) rfl (by kernel_rfl) (fun _ _ _ h => h) (by assumption) rfl ?hy10q53 ?rest10q53
      case hy10q53 => (intro wS hSw; (try dsimp only at hSw); go_simp; try with_reducible rfl)
      try simp only [Act.put, List.setIfInBounds_toArray, List.set_cons_zero, List.set_cons_succ]
      refine held_quiet 11 (v := ?v11q54) rfl (by kernel_rfl) (fun _ _ _ h => h) (by assumption) rfl ?hy11q54 ?rest11q54
      case hy11q54 => (intro wS hSw; (try dsimp only at hSw); go_simp; try with_reducible rfl)
      try simp only [Act.put, List.setIfInBounds_toArray, List.set_cons_zero, List.set_cons_succ]
      refine held_quiet 14 (v := ?v14q55) rfl (by kernel_rfl) (fun _ _ _ h => h) (by assumption) rfl ?hy14q55 ?rest14q55
      case hy14q55 => (intro wS hSw; (try dsimp only at hSw); go_simp; try with_reducible rfl)
      try simp only [Act.put, List.setIfInBounds_toArray, List.set_cons_zero, List.set_cons_succ]
      refine held_quiet 15 (v := ?v15q56) rfl (by kernel_rfl) (fun _ _ _ h => h) (by assumption) rfl ?hy15q56 ?rest15q56
      case hy15q56 => (intro wS hSw; (try dsimp only at hSw); go_simp; try with_reducible rfl)
      try simp only [Act.put, List.setIfInBounds_toArray, List.set_cons_zero, List.set_cons_succ]
      refine held_quiet 16 (v := ?v16q57) rfl (by kernel_rfl) (fun _ _ _ h => h) (by assumption) rfl ?hy16q57 ?rest16q57
      case hy16q57 => (intro wS hSw; (try dsimp only at hSw); go_simp; try with_reducible rfl)
      try simp only [Act.put, List.setIfInBounds_toArray, List.set_cons_zero, List.set_cons_succ]
      refine held_quiet 17 (v := ?v17q58) rfl (by kernel_rfl) (fun _ _ _ h => h) (by assumption) rfl ?hy17q58 ?rest17q58
      case hy17q58 => (intro wS hSw; (try dsimp only at hSw); go_simp; try with_reducible rfl)
      try simp only [Act.put, List.setIfInBounds_toArray, List.set_cons_zero, List.set_cons_succ]
      refine held_quiet 19 (v := ?v19q59) rfl (by kernel_rfl) (fun _ _ _ h => h) (by assumption) rfl ?hy19q59 ?rest19q59
      case hy19q59 => (intro wS hSw; (try dsimp only at hSw); go_simp; try with_reducible rfl)
      try simp only [Act.put, List.setIfInBounds_toArray, List.set_cons_zero, List.set_cons_succ]
      refine held_quiet 20 (v := ?v20q60) rfl (by kernel_rfl) (fun _ _ _ h => h) (by assumption) rfl ?hy20q60 ?rest20q60
      case hy20q60 => (intro wS hSw; (try dsimp only at hSw); go_simp; try with_reducible rfl)
      try simp only [Act.put, List.setIfInBounds_toArray, List.set_cons_zero, List.set_cons_succ]
      refine held_quiet 21 (v := ?v21q61) rfl (by kernel_rfl) (fun _ _ _ h => h) (by assumption) rfl ?hy21q61 ?rest21q61
      case hy21q61 => (intro wS hSw; (try dsimp only at hSw); go_simp; try with_reducible rfl)
      try simp only [Act.put, List.setIfInBounds_toArray, List.set_cons_zero, List.set_cons_succ]
      refine held_two 8 18 rfl rfl (by kernel_rfl) ?_ ?_
      · go_wp2
        try refine ⟨hS, ?_⟩
        refine held_quiet 12 (v := ?v12q62) rfl (by kernel_rfl) (fun _ _ _ h => h) (by assumption) rfl ?hy12q62 ?rest12q62
        case hy12q62 => (intro wS hSw; (try dsimp only at hSw); go_simp; try with_reducible rfl)
        try simp only [Act.put, List.setIfInBounds_toArray, List.set_cons_zero, List.set_cons_succ]
        refine held_two 13 18 rfl rfl (by kernel_rfl) ?_ ?_
        · skip
          go_wp2_with (go_at_call 31; refine (HW1.out _ AD.out).mono ?_; rintro e W2 ⟨rfl, t2, o2⟩)
          have T2 : Hid (Two X W2 w1.heap.size 3 dp kp DZ D4 (some (rp, tz, cz)) (some (sp, t, c4)) A CS) := t2
          have B2 : Hid (Below w1.heap.size w1 W2) := (B4.out.drew).trans (old13 o2 B4.out.size (Nat.le_refl _))
          have s2 := (t2.rcells (by decide)).1
          clear t2 o2
          have hS2 : (fun W => W.cell? ⟨A, 0, none⟩ = some (.int .i64 2) ∧ W.cell? ⟨A, 1, none⟩ = some (.int .i64 ii)) W2 := ⟨(HD.out _ _ _ _ _ T2.out).1, (HD.out _ _ _ _ _ T2.out).2.1⟩
          try refine ⟨hS2, ?_⟩
          refine held_one 18 rfl (by kernel_rfl) ?_
          go_wp2
          try refine ⟨hS2, ?_⟩
          refine held_quiet 22 (v := ?v22q63) rfl (by kernel_rfl) (fun _ _ _ h => h) (by assumption) rfl ?hy22q63 ?rest22q63
          case hy22q63 => (intro wS hSw; (try dsimp only at hSw); go_simp; try with_reducible rfl)
          try simp only [Act.put, List.setIfInBounds_toArray, List.set_cons_zero, List.set_cons_succ]
          refine held_one 23 rfl (by kernel_rfl) ?_
          go_wp2_with (go_at_call 32; refine (HW2.out _ T2.out).mono ?_; rintro e W6 ⟨rfl, t3, o3⟩)
          have T6 : Hid (Two X W6 w1.heap.size 3 dp kp D6 D6 (some (rp, t6, c6)) (some (sp, t6, c6)) A CS) := by rw [HE6.out.1, HE6.out.2.1, HE6.out.2.2]; exact t3
          have B6 : Hid (Below w1.heap.size w1 W6) := B2.out.trans (old13 o3 B2.out.size (Nat.le_refl _))
          clear t3 o3 s2 hS2
          have hS3 : (fun W => W.cell? ⟨A, 0, none⟩ = some (.int .i64 2) ∧ W.cell? ⟨A, 1, none⟩ = some (.int .i64 ii)) W6 := ⟨(HD.out _ _ _ _ _ T6.out).1, (HD.out _ _ _ _ _ T6.out).2.1⟩
          try refine ⟨hS3, ?_⟩
          refine held_quiet 24 (v := ?v24q64) rfl (by kernel_rfl) (fun _ _ _ h => h) (by assumption) rfl ?hy24q64 ?rest24q64
          case hy24q64 => (intro wS hSw; (try dsimp only at hSw); go_simp; try with_reducible rfl)
          try simp only [Act.put, List.setIfInBounds_toArray, List.set_cons_zero, List.set_cons_succ]
          refine held_quiet 25 (v := ?v25q65) rfl (by kernel_rfl) (fun _ _ _ h => h) (by assumption) rfl ?hy25q65 ?rest25q65
          case hy25q65 => (intro wS hSw; (try dsimp only at hSw); go_simp; try with_reducible rfl)
          try simp only [Act.put, List.setIfInBounds_toArray, List.set_cons_zero, List.set_cons_succ]
          refine held_done (by kernel_rfl) ?_
          clear hS3
          go_wp2_with fail
          obtain ⟨vl, hvl⟩ : ∃ vl : Int, vl = (Ri.slots N : Nat) - (c6 : Nat) := ⟨_, rfl⟩
          obtain ⟨nx, hnx⟩ : ∃ nx, nx = Ri.nth t6 (c6 + 1) := ⟨_, rfl⟩
          have h1 : (vl != vl) = false := by simp
          have h2 : ((nx : Int) != (nx : Int)) = false := by simp
          have HLp : Hid (∀ W, Two X W w1.heap.size 3 dp kp D6 D6 (some (rp, t6, c6)) (some (sp, t6, c6)) A CS → Calls Tryz.prog 33 #[.pointer (some ⟨rp, 0, none⟩)] W fun e w' => e = .returned (.int .i64 vl) ∧ Below W.heap.size W w') := fun W h => by rw [hvl]; exact h.leftC I6.out HN.out.2.2 G6.out
          have HLr : Hid (∀ W, Two X W w1.heap.size 3 dp kp D6 D6 (some (rp, t6, c6)) (some (sp, t6, c6)) A CS → Calls Tryz.prog 34 #[.pointer (some ⟨sp, 0, none⟩)] W fun e w' => e = .returned (.int .i64 vl) ∧ Below W.heap.size W w') := fun W h => by rw [hvl]; exact h.rleftC I6.out HN.out.2.2 G6.out
          have HNx : Hid (∀ W, Two X W w1.heap.size 3 dp kp D6 D6 (some (rp, t6, c6)) (some (sp, t6, c6)) A CS → Calls Tryz.prog 35 #[.pointer (some ⟨rp, 0, none⟩)] W fun e w' => e = .returned (.int .u64 (nx : Nat)) ∧ Below W.heap.size W w') := fun W h => by rw [hnx]; exact h.nextC
          have HC2 : Hid (∀ W, Two X W w1.heap.size 3 dp kp D6 D6 (some (rp, t6, c6)) (some (sp, t6, c6)) A CS → W.cell? ⟨sp, 2, none⟩ = some (.int .u64 (nx : Nat))) := fun W h => by rw [hnx]; exact (h.rcells (by decide)).2
          clear hvl hnx
          go_upto_region 56 with fail
          have AD : Hid (Two X W6.drew w1.heap.size 3 dp kp D6 D6 (some (rp, t6, c6)) (some (sp, t6, c6)) A CS) := T6.out.below (Below.refl _ _).drew
          have hS : (fun W : World => W.cell? ⟨sp, 2, none⟩ = some (.int .u64 (nx : Nat))) W6.drew := HC2.out _ AD.out
          refine wp_region_held (S := fun W => W.cell? ⟨sp, 2, none⟩ = some (.int .u64 (nx : Nat))) HMX.out ?_
          change wpAnyH _ _ _ _ _ _ _ _ W6.drew
          refine held_quiet 0 (v := ?v0q66) rfl (by kernel_rfl) (fun _ _ _ h => h) (by assumption) rfl ?hy0q66 ?rest0q66
          case hy0q66 => (intro wS hSw; (try dsimp only at hSw); go_simp; try with_reducible rfl)
          try simp only [Act.put, List.setIfInBounds_toArray, List.set_cons_zero, List.set_cons_succ]
          refine held_quiet 2 (v := ?v2q67) rfl (by kernel_rfl) (fun _ _ _ h => h) (by assumption) rfl ?hy2q67 ?rest2q67
          case hy2q67 => (intro wS hSw; (try dsimp only at hSw); go_simp; try with_reducible rfl)
          try simp only [Act.put, List.setIfInBounds_toArray, List.set_cons_zero, List.set_cons_succ]
          refine held_one 1 rfl (by kernel_rfl) ?_
          go_wp2_with (go_at_call 33; refine (HLp.out _ AD.out).mono ?_; rintro e W7 ⟨rfl, hb7⟩)
          have T7 : Hid (Two X W7 w1.heap.size 3 dp kp D6 D6 (some (rp, t6, c6)) (some (sp, t6, c6)) A CS) := AD.out.below hb7
          have B7 : Hid (Below w1.heap.size w1 W7) := below2 B6.out.drew hb7
          clear hb7 hS
          have hS2 : (fun W : World => W.cell? ⟨sp, 2, none⟩ = some (.int .u64 (nx : Nat))) W7 := HC2.out _ T7.out
          try refine ⟨hS2, ?_⟩
          refine held_one 3 rfl (by kernel_rfl) ?_
          go_wp2_with (go_at_call 34; refine (HLr.out _ T7.out).mono ?_; rintro e W8 ⟨rfl, hb8⟩)
          have T8 : Hid (Two X W8 w1.heap.size 3 dp kp D6 D6 (some (rp, t6, c6)) (some (sp, t6, c6)) A CS) := T7.out.below hb8
          have B8 : Hid (Below w1.heap.size w1 W8) := below2 B7.out hb8
          clear hb8 hS2
          have hS3 : (fun W : World => W.cell? ⟨sp, 2, none⟩ = some (.int .u64 (nx : Nat))) W8 := HC2.out _ T8.out
          try refine ⟨hS3, ?_⟩
          refine held_quiet 4 (v := ?v4q68) rfl (by kernel_rfl) (fun _ _ _ h => h) (by assumption) rfl ?hy4q68 ?rest4q68
          case hy4q68 => (intro wS hSw; (try dsimp only at hSw); go_simp; try with_reducible rfl)
          try simp only [Act.put, List.setIfInBounds_toArray, List.set_cons_zero, List.set_cons_succ]
          refine held_quiet 5 (v := ?v5q69) rfl (by kernel_rfl) (fun _ _ _ h => h) (by assumption) rfl ?hy5q69 ?rest5q69
          case hy5q69 => (intro wS hSw; (try dsimp only at hSw); go_simp; try with_reducible rfl)
          try simp only [Act.put, List.setIfInBounds_toArray, List.set_cons_zero, List.set_cons_succ]
          refine held_quiet 6 (v := ?v6q70) rfl (by kernel_rfl) (fun _ _ _ h => h) (by assumption) rfl ?hy6q70 ?rest6q70
          case hy6q70 => (intro wS hSw; (try dsimp only at hSw); go_simp; try with_reducible rfl)
          try simp only [Act.put, List.setIfInBounds_toArray, List.set_cons_zero, List.set_cons_succ]
          refine held_quiet 8 (v := ?v8q71) rfl (by kernel_rfl) (fun _ _ _ h => h) (by assumption) rfl ?hy8q71 ?rest8q71
          case hy8q71 => (intro wS hSw; (try dsimp only at hSw); go_simp; try with_reducible rfl)
          try simp only [Act.put, List.setIfInBounds_toArray, List.set_cons_zero, List.set_cons_succ]
          refine held_quiet 9 (v := ?v9q72) rfl (by kernel_rfl) (fun _ _ _ h => h) (by assumption) rfl ?hy9q72 ?rest9q72
          case hy9q72 => (intro wS hSw; (try dsimp only at hSw); go_simp; try with_reducible rfl)
          try simp only [Act.put, List.setIfInBounds_toArray, List.set_cons_zero, List.set_cons_succ]
          refine held_quiet 10 (v := ?v10q73) rfl (by kernel_rfl) (fun _ _ _ h => h) (by assumption) rfl ?hy10q73 ?rest10q73
          case hy10q73 => (intro wS hSw; (try dsimp only at hSw); go_simp; try with_reducible rfl)
          try simp only [Act.put, List.setIfInBounds_toArray, List.set_cons_zero, List.set_cons_succ]
          refine held_quiet 11 (v := ?v11q74) rfl (by kernel_rfl) (fun _ _ _ h => h) (by assumption) rfl ?hy11q74 ?rest11q74
          case hy11q74 => (intro wS hSw; (try dsimp only at hSw); go_simp; try with_reducible rfl)
          try simp only [Act.put, List.setIfInBounds_toArray, List.set_cons_zero, List.set_cons_succ]
          refine held_one 7 rfl (by kernel_rfl) ?_
          go_wp2_with (go_at_call 35; refine (HNx.out _ T8.out).mono ?_; rintro e W9 ⟨rfl, hb9⟩)
          have T9 : Hid (Two X W9 w1.heap.size 3 dp kp D6 D6 (some (rp, t6, c6)) (some (sp, t6, c6)) A CS) := T8.out.below hb9
          have B9 : Hid (Below w1.heap.size w1 W9) := below2 B8.out hb9
          clear hb9 hS3
          have hS4 : (fun W : World => W.cell? ⟨sp, 2, none⟩ = some (.int .u64 (nx : Nat))) W9 := HC2.out _ T9.out
          try refine ⟨hS4, ?_⟩
          refine held_quiet 12 (v := ?v12q75) rfl (by kernel_rfl) (fun _ _ _ h => h) (by assumption) rfl ?hy12q75 ?rest12q75
          case hy12q75 => (intro wS hSw; (try dsimp only at hSw); go_simp; try with_reducible rfl)
          try simp only [Act.put, List.setIfInBounds_toArray, List.set_cons_zero, List.set_cons_succ]
          refine held_quiet 13 (v := ?v13q76) rfl (by kernel_rfl) (fun _ _ _ h => h) (by assumption) rfl ?hy13q76 ?rest13q76
          case hy13q76 => (intro wS hSw; (try dsimp only at hSw); go_simp; try with_reducible rfl)
          try simp only [Act.put, List.setIfInBounds_toArray, List.set_cons_zero, List.set_cons_succ]
          refine held_done (by kernel_rfl) ?_
          clear hS4
          go_wp2
          go_roundg (n - (k + 1))
          case measure => have := HK.out; omega
          case rel => exact ⟨k + 1, D6, some (rp, sp, t6, c6), by have := HK.out; omega, rfl, rfl, rfl, by go_num, T9.out.left _ _, I6.out, G6.out, B9.out⟩
        · go_wp2
          try refine ⟨hS, ?_⟩
          refine held_quiet 22 (v := ?v22q77) rfl (by kernel_rfl) (fun _ _ _ h => h) (by assumption) rfl ?hy22q77 ?rest22q77
          case hy22q77 => (intro wS hSw; (try dsimp only at hSw); go_simp; try with_reducible rfl)
          try simp only [Act.put, List.setIfInBounds_toArray, List.set_cons_zero, List.set_cons_succ]
          refine held_one 13 rfl (by kernel_rfl) ?_
          go_wp2_with (go_at_call 31; refine (HW1.out _ AD.out).mono ?_; rintro e W2 ⟨rfl, t2, o2⟩)
          have T2 : Hid (Two X W2 w1.heap.size 3 dp kp DZ D4 (some (rp, tz, cz)) (some (sp, t, c4)) A CS) := t2
          have B2 : Hid (Below w1.heap.size w1 W2) := (B4.out.drew).trans (old13 o2 B4.out.size (Nat.le_refl _))
          have s2 := (t2.rcells (by decide)).1
          clear t2 o2
          have hS2 : (fun W => W.cell? ⟨A, 0, none⟩ = some (.int .i64 2) ∧ W.cell? ⟨A, 1, none⟩ = some (.int .i64 ii)) W2 := ⟨(HD.out _ _ _ _ _ T2.out).1, (HD.out _ _ _ _ _ T2.out).2.1⟩
          try refine ⟨hS2, ?_⟩
          refine held_one 23 rfl (by kernel_rfl) ?_
          go_wp2_with (go_at_call 32; refine (HW2.out _ T2.out).mono ?_; rintro e W6 ⟨rfl, t3, o3⟩)
          have T6 : Hid (Two X W6 w1.heap.size 3 dp kp D6 D6 (some (rp, t6, c6)) (some (sp, t6, c6)) A CS) := by rw [HE6.out.1, HE6.out.2.1, HE6.out.2.2]; exact t3
          have B6 : Hid (Below w1.heap.size w1 W6) := B2.out.trans (old13 o3 B2.out.size (Nat.le_refl _))
          clear t3 o3 s2 hS2
          have hS3 : (fun W => W.cell? ⟨A, 0, none⟩ = some (.int .i64 2) ∧ W.cell? ⟨A, 1, none⟩ = some (.int .i64 ii)) W6 := ⟨(HD.out _ _ _ _ _ T6.out).1, (HD.out _ _ _ _ _ T6.out).2.1⟩
          try refine ⟨hS3, ?_⟩
          refine held_quiet 24 (v := ?v24q78) rfl (by kernel_rfl) (fun _ _ _ h => h) (by assumption) rfl ?hy24q78 ?rest24q78
          case hy24q78 => (intro wS hSw; (try dsimp only at hSw); go_simp; try with_reducible rfl)
          try simp only [Act.put, List.setIfInBounds_toArray, List.set_cons_zero, List.set_cons_succ]
          refine held_quiet 25 (v := ?v25q79) rfl (by kernel_rfl) (fun _ _ _ h => h) (by assumption) rfl ?hy25q79 ?rest25q79
          case hy25q79 => (intro wS hSw; (try dsimp only at hSw); go_simp; try with_reducible rfl)
          try simp only [Act.put, List.setIfInBounds_toArray, List.set_cons_zero, List.set_cons_succ]
          refine held_done (by kernel_rfl) ?_
          clear hS3
          go_wp2_with fail
          obtain ⟨vl, hvl⟩ : ∃ vl : Int, vl = (Ri.slots N : Nat) - (c6 : Nat) := ⟨_, rfl⟩
          obtain ⟨nx, hnx⟩ : ∃ nx, nx = Ri.nth t6 (c6 + 1) := ⟨_, rfl⟩
          have h1 : (vl != vl) = false := by simp
          have h2 : ((nx : Int) != (nx : Int)) = false := by simp
          have HLp : Hid (∀ W, Two X W w1.heap.size 3 dp kp D6 D6 (some (rp, t6, c6)) (some (sp, t6, c6)) A CS → Calls Tryz.prog 33 #[.pointer (some ⟨rp, 0, none⟩)] W fun e w' => e = .returned (.int .i64 vl) ∧ Below W.heap.size W w') := fun W h => by rw [hvl]; exact h.leftC I6.out HN.out.2.2 G6.out
          have HLr : Hid (∀ W, Two X W w1.heap.size 3 dp kp D6 D6 (some (rp, t6, c6)) (some (sp, t6, c6)) A CS → Calls Tryz.prog 34 #[.pointer (some ⟨sp, 0, none⟩)] W fun e w' => e = .returned (.int .i64 vl) ∧ Below W.heap.size W w') := fun W h => by rw [hvl]; exact h.rleftC I6.out HN.out.2.2 G6.out
          have HNx : Hid (∀ W, Two X W w1.heap.size 3 dp kp D6 D6 (some (rp, t6, c6)) (some (sp, t6, c6)) A CS → Calls Tryz.prog 35 #[.pointer (some ⟨rp, 0, none⟩)] W fun e w' => e = .returned (.int .u64 (nx : Nat)) ∧ Below W.heap.size W w') := fun W h => by rw [hnx]; exact h.nextC
          have HC2 : Hid (∀ W, Two X W w1.heap.size 3 dp kp D6 D6 (some (rp, t6, c6)) (some (sp, t6, c6)) A CS → W.cell? ⟨sp, 2, none⟩ = some (.int .u64 (nx : Nat))) := fun W h => by rw [hnx]; exact (h.rcells (by decide)).2
          clear hvl hnx
          go_upto_region 56 with fail
          have AD : Hid (Two X W6.drew w1.heap.size 3 dp kp D6 D6 (some (rp, t6, c6)) (some (sp, t6, c6)) A CS) := T6.out.below (Below.refl _ _).drew
          have hS : (fun W : World => W.cell? ⟨sp, 2, none⟩ = some (.int .u64 (nx : Nat))) W6.drew := HC2.out _ AD.out
          refine wp_region_held (S := fun W => W.cell? ⟨sp, 2, none⟩ = some (.int .u64 (nx : Nat))) HMX.out ?_
          change wpAnyH _ _ _ _ _ _ _ _ W6.drew
          refine held_quiet 0 (v := ?v0q80) rfl (by kernel_rfl) (fun _ _ _ h => h) (by assumption) rfl ?hy0q80 ?rest0q80
          case hy0q80 => (intro wS hSw; (try dsimp only at hSw); go_simp; try with_reducible rfl)
          try simp only [Act.put, List.setIfInBounds_toArray, List.set_cons_zero, List.set_cons_succ]
          refine held_quiet 2 (v := ?v2q81) rfl (by kernel_rfl) (fun _ _ _ h => h) (by assumption) rfl ?hy2q81 ?rest2q81
          case hy2q81 => (intro wS hSw; (try dsimp only at hSw); go_simp; try with_reducible rfl)
          try simp only [Act.put, List.setIfInBounds_toArray, List.set_cons_zero, List.set_cons_succ]
          refine held_one 1 rfl (by kernel_rfl) ?_
          go_wp2_with (go_at_call 33; refine (HLp.out _ AD.out).mono ?_; rintro e W7 ⟨rfl, hb7⟩)
          have T7 : Hid (Two X W7 w1.heap.size 3 dp kp D6 D6 (some (rp, t6, c6)) (some (sp, t6, c6)) A CS) := AD.out.below hb7
          have B7 : Hid (Below w1.heap.size w1 W7) := below2 B6.out.drew hb7
          clear hb7 hS
          have hS2 : (fun W : World => W.cell? ⟨sp, 2, none⟩ = some (.int .u64 (nx : Nat))) W7 := HC2.out _ T7.out
          try refine ⟨hS2, ?_⟩
          refine held_one 3 rfl (by kernel_rfl) ?_
          go_wp2_with (go_at_call 34; refine (HLr.out _ T7.out).mono ?_; rintro e W8 ⟨rfl, hb8⟩)
          have T8 : Hid (Two X W8 w1.heap.size 3 dp kp D6 D6 (some (rp, t6, c6)) (some (sp, t6, c6)) A CS) := T7.out.below hb8
          have B8 : Hid (Below w1.heap.size w1 W8) := below2 B7.out hb8
          clear hb8 hS2
          have hS3 : (fun W : World => W.cell? ⟨sp, 2, none⟩ = some (.int .u64 (nx : Nat))) W8 := HC2.out _ T8.out
          try refine ⟨hS3, ?_⟩
          refine held_quiet 4 (v := ?v4q82) rfl (by kernel_rfl) (fun _ _ _ h => h) (by assumption) rfl ?hy4q82 ?rest4q82
          case hy4q82 => (intro wS hSw; (try dsimp only at hSw); go_simp; try with_reducible rfl)
          try simp only [Act.put, List.setIfInBounds_toArray, List.set_cons_zero, List.set_cons_succ]
          refine held_quiet 5 (v := ?v5q83) rfl (by kernel_rfl) (fun _ _ _ h => h) (by assumption) rfl ?hy5q83 ?rest5q83
          case hy5q83 => (intro wS hSw; (try dsimp only at hSw); go_simp; try with_reducible rfl)
          try simp only [Act.put, List.setIfInBounds_toArray, List.set_cons_zero, List.set_cons_succ]
          refine held_quiet 6 (v := ?v6q84) rfl (by kernel_rfl) (fun _ _ _ h => h) (by assumption) rfl ?hy6q84 ?rest6q84
          case hy6q84 => (intro wS hSw; (try dsimp only at hSw); go_simp; try with_reducible rfl)
          try simp only [Act.put, List.setIfInBounds_toArray, List.set_cons_zero, List.set_cons_succ]
          refine held_quiet 8 (v := ?v8q85) rfl (by kernel_rfl) (fun _ _ _ h => h) (by assumption) rfl ?hy8q85 ?rest8q85
          case hy8q85 => (intro wS hSw; (try dsimp only at hSw); go_simp; try with_reducible rfl)
          try simp only [Act.put, List.setIfInBounds_toArray, List.set_cons_zero, List.set_cons_succ]
          refine held_quiet 9 (v := ?v9q86) rfl (by kernel_rfl) (fun _ _ _ h => h) (by assumption) rfl ?hy9q86 ?rest9q86
          case hy9q86 => (intro wS hSw; (try dsimp only at hSw); go_simp; try with_reducible rfl)
          try simp only [Act.put, List.setIfInBounds_toArray, List.set_cons_zero, List.set_cons_succ]
          refine held_quiet 10 (v := ?v10q87) rfl (by kernel_rfl) (fun _ _ _ h => h) (by assumption) rfl ?hy10q87 ?rest10q87
          case hy10q87 => (intro wS hSw; (try dsimp only at hSw); go_simp; try with_reducible rfl)
          try simp only [Act.put, List.setIfInBounds_toArray, List.set_cons_zero, List.set_cons_succ]
          refine held_quiet 11 (v := ?v11q88) rfl (by kernel_rfl) (fun _ _ _ h => h) (by assumption) rfl ?hy11q88 ?rest11q88
          case hy11q88 => (intro wS hSw; (try dsimp only at hSw); go_simp; try with_reducible rfl)
          try simp only [Act.put, List.setIfInBounds_toArray, List.set_cons_zero, List.set_cons_succ]
          refine held_one 7 rfl (by kernel_rfl) ?_
          go_wp2_with (go_at_call 35; refine (HNx.out _ T8.out).mono ?_; rintro e W9 ⟨rfl, hb9⟩)
          have T9 : Hid (Two X W9 w1.heap.size 3 dp kp D6 D6 (some (rp, t6, c6)) (some (sp, t6, c6)) A CS) := T8.out.below hb9
          have B9 : Hid (Below w1.heap.size w1 W9) := below2 B8.out hb9
          clear hb9 hS3
          have hS4 : (fun W : World => W.cell? ⟨sp, 2, none⟩ = some (.int .u64 (nx : Nat))) W9 := HC2.out _ T9.out
          try refine ⟨hS4, ?_⟩
          refine held_quiet 12 (v := ?v12q89) rfl (by kernel_rfl) (fun _ _ _ h => h) (by assumption) rfl ?hy12q89 ?rest12q89
          case hy12q89 => (intro wS hSw; (try dsimp only at hSw); go_simp; try with_reducible rfl)
          try simp only [Act.put, List.setIfInBounds_toArray, List.set_cons_zero, List.set_cons_succ]
          refine held_quiet 13 (v := ?v13q90) rfl (by kernel_rfl) (fun _ _ _ h => h) (by assumption) rfl ?hy13q90 ?rest13q90
          case hy13q90 => (intro wS hSw; (try dsimp only at hSw); go_simp; try with_reducible rfl)
          try simp only [Act.put, List.setIfInBounds_toArray, List.set_cons_zero, List.set_cons_succ]
          refine held_done (by kernel_rfl) ?_
          clear hS4
          go_wp2
          go_roundg (n - (k + 1))
          case measure => have := HK.out; omega
          case rel => exact ⟨k + 1, D6, some (rp, sp, t6, c6), by have := HK.out; omega, rfl, rfl, rfl, by go_num, T9.out.left _ _, I6.out, G6.out, B9.out⟩
      · go_wp2
        try refine ⟨hS, ?_⟩
        refine held_quiet 22 (v := ?v22q91) rfl (by kernel_rfl) (fun _ _ _ h => h) (by assumption) rfl ?hy22q91 ?rest22q91
        case hy22q91 => (intro wS hSw; (try dsimp only at hSw); go_simp; try with_reducible rfl)
        try simp only [Act.put, List.setIfInBounds_toArray, List.set_cons_zero, List.set_cons_succ]
        refine held_one 8 rfl (by kernel_rfl) ?_
        go_wp2
        try refine ⟨hS, ?_⟩
        refine held_quiet 12 (v := ?v12q92) rfl (by kernel_rfl) (fun _ _ _ h => h) (by assumption) rfl ?hy12q92 ?rest12q92
        case hy12q92 => (intro wS hSw; (try dsimp only at hSw); go_simp; try with_reducible rfl)
        try simp only [Act.put, List.setIfInBounds_toArray, List.set_cons_zero, List.set_cons_succ]
        refine held_one 13 rfl (by kernel_rfl) ?_
        go_wp2_with (go_at_call 31; refine (HW1.out _ AD.out).mono ?_; rintro e W2 ⟨rfl, t2, o2⟩)
        have T2 : Hid (Two X W2 w1.heap.size 3 dp kp DZ D4 (some (rp, tz, cz)) (some (sp, t, c4)) A CS) := t2
        have B2 : Hid (Below w1.heap.size w1 W2) := (B4.out.drew).trans (old13 o2 B4.out.size (Nat.le_refl _))
        have s2 := (t2.rcells (by decide)).1
        clear t2 o2
        have hS2 : (fun W => W.cell? ⟨A, 0, none⟩ = some (.int .i64 2) ∧ W.cell? ⟨A, 1, none⟩ = some (.int .i64 ii)) W2 := ⟨(HD.out _ _ _ _ _ T2.out).1, (HD.out _ _ _ _ _ T2.out).2.1⟩
        try refine ⟨hS2, ?_⟩
        refine held_one 23 rfl (by kernel_rfl) ?_
        go_wp2_with (go_at_call 32; refine (HW2.out _ T2.out).mono ?_; rintro e W6 ⟨rfl, t3, o3⟩)
        have T6 : Hid (Two X W6 w1.heap.size 3 dp kp D6 D6 (some (rp, t6, c6)) (some (sp, t6, c6)) A CS) := by rw [HE6.out.1, HE6.out.2.1, HE6.out.2.2]; exact t3
        have B6 : Hid (Below w1.heap.size w1 W6) := B2.out.trans (old13 o3 B2.out.size (Nat.le_refl _))
        clear t3 o3 s2 hS2
        have hS3 : (fun W => W.cell? ⟨A, 0, none⟩ = some (.int .i64 2) ∧ W.cell? ⟨A, 1, none⟩ = some (.int .i64 ii)) W6 := ⟨(HD.out _ _ _ _ _ T6.out).1, (HD.out _ _ _ _ _ T6.out).2.1⟩
        try refine ⟨hS3, ?_⟩
        refine held_quiet 24 (v := ?v24q93) rfl (by kernel_rfl) (fun _ _ _ h => h) (by assumption) rfl ?hy24q93 ?rest24q93
        case hy24q93 => (intro wS hSw; (try dsimp only at hSw); go_simp; try with_reducible rfl)
        try simp only [Act.put, List.setIfInBounds_toArray, List.set_cons_zero, List.set_cons_succ]
        refine held_quiet 25 (v := ?v25q94) rfl (by kernel_rfl) (fun _ _ _ h => h) (by assumption) rfl ?hy25q94 ?rest25q94
        case hy25q94 => (intro wS hSw; (try dsimp only at hSw); go_simp; try with_reducible rfl)
        try simp only [Act.put, List.setIfInBounds_toArray, List.set_cons_zero, List.set_cons_succ]
        refine held_done (by kernel_rfl) ?_
        clear hS3
        go_wp2_with fail
        obtain ⟨vl, hvl⟩ : ∃ vl : Int, vl = (Ri.slots N : Nat) - (c6 : Nat) := ⟨_, rfl⟩
        obtain ⟨nx, hnx⟩ : ∃ nx, nx = Ri.nth t6 (c6 + 1) := ⟨_, rfl⟩
        have h1 : (vl != vl) = false := by simp
        have h2 : ((nx : Int) != (nx : Int)) = false := by simp
        have HLp : Hid (∀ W, Two X W w1.heap.size 3 dp kp D6 D6 (some (rp, t6, c6)) (some (sp, t6, c6)) A CS → Calls Tryz.prog 33 #[.pointer (some ⟨rp, 0, none⟩)] W fun e w' => e = .returned (.int .i64 vl) ∧ Below W.heap.size W w') := fun W h => by rw [hvl]; exact h.leftC I6.out HN.out.2.2 G6.out
        have HLr : Hid (∀ W, Two X W w1.heap.size 3 dp kp D6 D6 (some (rp, t6, c6)) (some (sp, t6, c6)) A CS → Calls Tryz.prog 34 #[.pointer (some ⟨sp, 0, none⟩)] W fun e w' => e = .returned (.int .i64 vl) ∧ Below W.heap.size W w') := fun W h => by rw [hvl]; exact h.rleftC I6.out HN.out.2.2 G6.out
        have HNx : Hid (∀ W, Two X W w1.heap.size 3 dp kp D6 D6 (some (rp, t6, c6)) (some (sp, t6, c6)) A CS → Calls Tryz.prog 35 #[.pointer (some ⟨rp, 0, none⟩)] W fun e w' => e = .returned (.int .u64 (nx : Nat)) ∧ Below W.heap.size W w') := fun W h => by rw [hnx]; exact h.nextC
        have HC2 : Hid (∀ W, Two X W w1.heap.size 3 dp kp D6 D6 (some (rp, t6, c6)) (some (sp, t6, c6)) A CS → W.cell? ⟨sp, 2, none⟩ = some (.int .u64 (nx : Nat))) := fun W h => by rw [hnx]; exact (h.rcells (by decide)).2
        clear hvl hnx
        go_upto_region 56 with fail
        have AD : Hid (Two X W6.drew w1.heap.size 3 dp kp D6 D6 (some (rp, t6, c6)) (some (sp, t6, c6)) A CS) := T6.out.below (Below.refl _ _).drew
        have hS : (fun W : World => W.cell? ⟨sp, 2, none⟩ = some (.int .u64 (nx : Nat))) W6.drew := HC2.out _ AD.out
        refine wp_region_held (S := fun W => W.cell? ⟨sp, 2, none⟩ = some (.int .u64 (nx : Nat))) HMX.out ?_
        change wpAnyH _ _ _ _ _ _ _ _ W6.drew
        refine held_quiet 0 (v := ?v0q95) rfl (by kernel_rfl) (fun _ _ _ h => h) (by assumption) rfl ?hy0q95 ?rest0q95
        case hy0q95 => (intro wS hSw; (try dsimp only at hSw); go_simp; try with_reducible rfl)
        try simp only [Act.put, List.setIfInBounds_toArray, List.set_cons_zero, List.set_cons_succ]
        refine held_quiet 2 (v := ?v2q96) rfl (by kernel_rfl) (fun _ _ _ h => h) (by assumption) rfl ?hy2q96 ?rest2q96
        case hy2q96 => (intro wS hSw; (try dsimp only at hSw); go_simp; try with_reducible rfl)
        try simp only [Act.put, List.setIfInBounds_toArray, List.set_cons_zero, List.set_cons_succ]
        refine held_one 1 rfl (by kernel_rfl) ?_
        go_wp2_with (go_at_call 33; refine (HLp.out _ AD.out).mono ?_; rintro e W7 ⟨rfl, hb7⟩)
        have T7 : Hid (Two X W7 w1.heap.size 3 dp kp D6 D6 (some (rp, t6, c6)) (some (sp, t6, c6)) A CS) := AD.out.below hb7
        have B7 : Hid (Below w1.heap.size w1 W7) := below2 B6.out.drew hb7
        clear hb7 hS
        have hS2 : (fun W : World => W.cell? ⟨sp, 2, none⟩ = some (.int .u64 (nx : Nat))) W7 := HC2.out _ T7.out
        try refine ⟨hS2, ?_⟩
        refine held_one 3 rfl (by kernel_rfl) ?_
        go_wp2_with (go_at_call 34; refine (HLr.out _ T7.out).mono ?_; rintro e W8 ⟨rfl, hb8⟩)
        have T8 : Hid (Two X W8 w1.heap.size 3 dp kp D6 D6 (some (rp, t6, c6)) (some (sp, t6, c6)) A CS) := T7.out.below hb8
        have B8 : Hid (Below w1.heap.size w1 W8) := below2 B7.out hb8
        clear hb8 hS2
        have hS3 : (fun W : World => W.cell? ⟨sp, 2, none⟩ = some (.int .u64 (nx : Nat))) W8 := HC2.out _ T8.out
        try refine ⟨hS3, ?_⟩
        refine held_quiet 4 (v := ?v4q97) rfl (by kernel_rfl) (fun _ _ _ h => h) (by assumption) rfl ?hy4q97 ?rest4q97
        case hy4q97 => (intro wS hSw; (try dsimp only at hSw); go_simp; try with_reducible rfl)
        try simp only [Act.put, List.setIfInBounds_toArray, List.set_cons_zero, List.set_cons_succ]
        refine held_quiet 5 (v := ?v5q98) rfl (by kernel_rfl) (fun _ _ _ h => h) (by assumption) rfl ?hy5q98 ?rest5q98
        case hy5q98 => (intro wS hSw; (try dsimp only at hSw); go_simp; try with_reducible rfl)
        try simp only [Act.put, List.setIfInBounds_toArray, List.set_cons_zero, List.set_cons_succ]
        refine held_quiet 6 (v := ?v6q99) rfl (by kernel_rfl) (fun _ _ _ h => h) (by assumption) rfl ?hy6q99 ?rest6q99
        case hy6q99 => (intro wS hSw; (try dsimp only at hSw); go_simp; try with_reducible rfl)
        try simp only [Act.put, List.setIfInBounds_toArray, List.set_cons_zero, List.set_cons_succ]
        refine held_quiet 8 (v := ?v8q100) rfl (by kernel_rfl) (fun _ _ _ h => h) (by assumption) rfl ?hy8q100 ?rest8q100
        case hy8q100 => (intro wS hSw; (try dsimp only at hSw); go_simp; try with_reducible rfl)
        try simp only [Act.put, List.setIfInBounds_toArray, List.set_cons_zero, List.set_cons_succ]
        refine held_quiet 9 (v := ?v9q101) rfl (by kernel_rfl) (fun _ _ _ h => h) (by assumption) rfl ?hy9q101 ?rest9q101
        case hy9q101 => (intro wS hSw; (try dsimp only at hSw); go_simp; try with_reducible rfl)
        try simp only [Act.put, List.setIfInBounds_toArray, List.set_cons_zero, List.set_cons_succ]
        refine held_quiet 10 (v := ?v10q102) rfl (by kernel_rfl) (fun _ _ _ h => h) (by assumption) rfl ?hy10q102 ?rest10q102
        case hy10q102 => (intro wS hSw; (try dsimp only at hSw); go_simp; try with_reducible rfl)
        try simp only [Act.put, List.setIfInBounds_toArray, List.set_cons_zero, List.set_cons_succ]
        refine held_quiet 11 (v := ?v11q103) rfl (by kernel_rfl) (fun _ _ _ h => h) (by assumption) rfl ?hy11q103 ?rest11q103
        case hy11q103 => (intro wS hSw; (try dsimp only at hSw); go_simp; try with_reducible rfl)
        try simp only [Act.put, List.setIfInBounds_toArray, List.set_cons_zero, List.set_cons_succ]
        refine held_one 7 rfl (by kernel_rfl) ?_
        go_wp2_with (go_at_call 35; refine (HNx.out _ T8.out).mono ?_; rintro e W9 ⟨rfl, hb9⟩)
        have T9 : Hid (Two X W9 w1.heap.size 3 dp kp D6 D6 (some (rp, t6, c6)) (some (sp, t6, c6)) A CS) := T8.out.below hb9
        have B9 : Hid (Below w1.heap.size w1 W9) := below2 B8.out hb9
        clear hb9 hS3
        have hS4 : (fun W : World => W.cell? ⟨sp, 2, none⟩ = some (.int .u64 (nx : Nat))) W9 := HC2.out _ T9.out
        try refine ⟨hS4, ?_⟩
        refine held_quiet 12 (v := ?v12q104) rfl (by kernel_rfl) (fun _ _ _ h => h) (by assumption) rfl ?hy12q104 ?rest12q104
        case hy12q104 => (intro wS hSw; (try dsimp only at hSw); go_simp; try with_reducible rfl)
        try simp only [Act.put, List.setIfInBounds_toArray, List.set_cons_zero, List.set_cons_succ]
        refine held_quiet 13 (v := ?v13q105) rfl (by kernel_rfl) (fun _ _ _ h => h) (by assumption) rfl ?hy13q105 ?rest13q105
        case hy13q105 => (intro wS hSw; (try dsimp only at hSw); go_simp; try with_reducible rfl)
        try simp only [Act.put, List.setIfInBounds_toArray, List.set_cons_zero, List.set_cons_succ]
        refine held_done (by kernel_rfl) ?_
        clear hS4
        go_wp2
        go_roundg (n - (k + 1))
        case measure => have := HK.out; omega
        case rel => exact ⟨k + 1, D6, some (rp, sp, t6, c6), by have := HK.out; omega, rfl, rfl, rfl, by go_num, T9.out.left _ _, I6.out, G6.out, B9.out⟩
  have k2 : (κ == 2) = false := by rw [beq_eq_false_iff_ne]; exact h2
  clear h2
  as_aux_lemma =>
    obtain ⟨d0, _, _, _, _⟩ := HD.out _ _ _ _ _ T4.out
    obtain ⟨D6, hD6⟩ : ∃ D6, D6 = D4 := ⟨_, rfl⟩
    obtain ⟨t6, ht6⟩ : ∃ t6, t6 = t := ⟨_, rfl⟩
    obtain ⟨c6, hc6⟩ : ∃ c6, c6 = c4 := ⟨_, rfl⟩
    have I6 : Hid (Inv13 D6 N (3 * (k + 1) + 1)) := by rw [hD6]; exact I4.out.next
    have G6 : Hid (RgOk N t6 c6) := by rw [ht6, hc6]; exact HG4.out
    go_upto_region 54 with fail
    go_quiet (fail)
    obtain ⟨W6, hW6⟩ : ∃ W6, W6 = wz.drewN nq := ⟨_, rfl⟩
    rw [← hW6]
    have T6 : Hid (Two X W6 w1.heap.size 3 dp kp D6 D6 (some (rp, t6, c6)) (some (sp, t6, c6)) A CS) := by rw [hW6, hD6, ht6, hc6]; exact T4.out.below (below_drewN (Below.refl _ _) _)
    have B6 : Hid (Below w1.heap.size w1 W6) := by rw [hW6]; exact below_drewN B4.out _
    clear hW6 hD6 ht6 hc6
    go_wp2_with fail

    obtain ⟨vl, hvl⟩ : ∃ vl : Int, vl = (Ri.slots N : Nat) - (c6 : Nat) := ⟨_, rfl⟩
    obtain ⟨nx, hnx⟩ : ∃ nx, nx = Ri.nth t6 (c6 + 1) := ⟨_, rfl⟩
    have h1 : (vl != vl) = false := by simp
    have h2 : ((nx : Int) != (nx : Int)) = false := by simp
    have HLp : Hid (∀ W, Two X W w1.heap.size 3 dp kp D6 D6 (some (rp, t6, c6)) (some (sp, t6, c6)) A CS → Calls Tryz.prog 33 #[.pointer (some ⟨rp, 0, none⟩)] W fun e w' => e = .returned (.int .i64 vl) ∧ Below W.heap.size W w') := fun W h => by rw [hvl]; exact h.leftC I6.out HN.out.2.2 G6.out
    have HLr : Hid (∀ W, Two X W w1.heap.size 3 dp kp D6 D6 (some (rp, t6, c6)) (some (sp, t6, c6)) A CS → Calls Tryz.prog 34 #[.pointer (some ⟨sp, 0, none⟩)] W fun e w' => e = .returned (.int .i64 vl) ∧ Below W.heap.size W w') := fun W h => by rw [hvl]; exact h.rleftC I6.out HN.out.2.2 G6.out
    have HNx : Hid (∀ W, Two X W w1.heap.size 3 dp kp D6 D6 (some (rp, t6, c6)) (some (sp, t6, c6)) A CS → Calls Tryz.prog 35 #[.pointer (some ⟨rp, 0, none⟩)] W fun e w' => e = .returned (.int .u64 (nx : Nat)) ∧ Below W.heap.size W w') := fun W h => by rw [hnx]; exact h.nextC
    have HC2 : Hid (∀ W, Two X W w1.heap.size 3 dp kp D6 D6 (some (rp, t6, c6)) (some (sp, t6, c6)) A CS → W.cell? ⟨sp, 2, none⟩ = some (.int .u64 (nx : Nat))) := fun W h => by rw [hnx]; exact (h.rcells (by decide)).2
    clear hvl hnx
    go_upto_region 56 with fail
    have AD : Hid (Two X W6.drew w1.heap.size 3 dp kp D6 D6 (some (rp, t6, c6)) (some (sp, t6, c6)) A CS) := T6.out.below (Below.refl _ _).drew
    have hS : (fun W : World => W.cell? ⟨sp, 2, none⟩ = some (.int .u64 (nx : Nat))) W6.drew := HC2.out _ AD.out
    refine wp_region_held (S := fun W => W.cell? ⟨sp, 2, none⟩ = some (.int .u64 (nx : Nat))) HMX.out ?_
    change wpAnyH _ _ _ _ _ _ _ _ W6.drew
    refine held_quiet 0 (v := ?v0q106) rfl (by kernel_rfl) (fun _ _ _ h => h) (by assumption) rfl ?hy0q106 ?rest0q106
    case hy0q106 => (intro wS hSw; (try dsimp only at hSw); go_simp; try with_reducible rfl)
    try simp only [Act.put, List.setIfInBounds_toArray, List.set_cons_zero, List.set_cons_succ]
    refine held_quiet 2 (v := ?v2q107) rfl (by kernel_rfl) (fun _ _ _ h => h) (by assumption) rfl ?hy2q107 ?rest2q107
    case hy2q107 => (intro wS hSw; (try dsimp only at hSw); go_simp; try with_reducible rfl)
    try simp only [Act.put, List.setIfInBounds_toArray, List.set_cons_zero, List.set_cons_succ]
    refine held_one 1 rfl (by kernel_rfl) ?_
    go_wp2_with (go_at_call 33; refine (HLp.out _ AD.out).mono ?_; rintro e W7 ⟨rfl, hb7⟩)
    have T7 : Hid (Two X W7 w1.heap.size 3 dp kp D6 D6 (some (rp, t6, c6)) (some (sp, t6, c6)) A CS) := AD.out.below hb7
    have B7 : Hid (Below w1.heap.size w1 W7) := below2 B6.out.drew hb7
    clear hb7 hS
    have hS2 : (fun W : World => W.cell? ⟨sp, 2, none⟩ = some (.int .u64 (nx : Nat))) W7 := HC2.out _ T7.out
    try refine ⟨hS2, ?_⟩
    refine held_one 3 rfl (by kernel_rfl) ?_
    go_wp2_with (go_at_call 34; refine (HLr.out _ T7.out).mono ?_; rintro e W8 ⟨rfl, hb8⟩)
    have T8 : Hid (Two X W8 w1.heap.size 3 dp kp D6 D6 (some (rp, t6, c6)) (some (sp, t6, c6)) A CS) := T7.out.below hb8
    have B8 : Hid (Below w1.heap.size w1 W8) := below2 B7.out hb8
    clear hb8 hS2
    have hS3 : (fun W : World => W.cell? ⟨sp, 2, none⟩ = some (.int .u64 (nx : Nat))) W8 := HC2.out _ T8.out
    try refine ⟨hS3, ?_⟩
    refine held_quiet 4 (v := ?v4q108) rfl (by kernel_rfl) (fun _ _ _ h => h) (by assumption) rfl ?hy4q108 ?rest4q108
    case hy4q108 => (intro wS hSw; (try dsimp only at hSw); go_simp; try with_reducible rfl)
    try simp only [Act.put, List.setIfInBounds_toArray, List.set_cons_zero, List.set_cons_succ]
    refine held_quiet 5 (v := ?v5q109) rfl (by kernel_rfl) (fun _ _ _ h => h) (by assumption) rfl ?hy5q109 ?rest5q109
    case hy5q109 => (intro wS hSw; (try dsimp only at hSw); go_simp; try with_reducible rfl)
    try simp only [Act.put, List.setIfInBounds_toArray, List.set_cons_zero, List.set_cons_succ]
    refine held_quiet 6 (v := ?v6q110) rfl (by kernel_rfl) (fun _ _ _ h => h) (by assumption) rfl ?hy6q110 ?rest6q110
    case hy6q110 => (intro wS hSw; (try dsimp only at hSw); go_simp; try with_reducible rfl)
    try simp only [Act.put, List.setIfInBounds_toArray, List.set_cons_zero, List.set_cons_succ]
    refine held_quiet 8 (v := ?v8q111) rfl (by kernel_rfl) (fun _ _ _ h => h) (by assumption) rfl ?hy8q111 ?rest8q111
    case hy8q111 => (intro wS hSw; (try dsimp only at hSw); go_simp; try with_reducible rfl)
    try simp only [Act.put, List.setIfInBounds_toArray, List.set_cons_zero, List.set_cons_succ]
    refine held_quiet 9 (v := ?v9q112) rfl (by kernel_rfl) (fun _ _ _ h => h) (by assumption) rfl ?hy9q112 ?rest9q112
    case hy9q112 => (intro wS hSw; (try dsimp only at hSw); go_simp; try with_reducible rfl)
    try simp only [Act.put, List.setIfInBounds_toArray, List.set_cons_zero, List.set_cons_succ]
    refine held_quiet 10 (v := ?v10q113) rfl (by kernel_rfl) (fun _ _ _ h => h) (by assumption) rfl ?hy10q113 ?rest10q113
    case hy10q113 => (intro wS hSw; (try dsimp only at hSw); go_simp; try with_reducible rfl)
    try simp only [Act.put, List.setIfInBounds_toArray, List.set_cons_zero, List.set_cons_succ]
    refine held_quiet 11 (v := ?v11q114) rfl (by kernel_rfl) (fun _ _ _ h => h) (by assumption) rfl ?hy11q114 ?rest11q114
    case hy11q114 => (intro wS hSw; (try dsimp only at hSw); go_simp; try with_reducible rfl)
    try simp only [Act.put, List.setIfInBounds_toArray, List.set_cons_zero, List.set_cons_succ]
    refine held_one 7 rfl (by kernel_rfl) ?_
    go_wp2_with (go_at_call 35; refine (HNx.out _ T8.out).mono ?_; rintro e W9 ⟨rfl, hb9⟩)
    have T9 : Hid (Two X W9 w1.heap.size 3 dp kp D6 D6 (some (rp, t6, c6)) (some (sp, t6, c6)) A CS) := T8.out.below hb9
    have B9 : Hid (Below w1.heap.size w1 W9) := below2 B8.out hb9
    clear hb9 hS3
    have hS4 : (fun W : World => W.cell? ⟨sp, 2, none⟩ = some (.int .u64 (nx : Nat))) W9 := HC2.out _ T9.out
    try refine ⟨hS4, ?_⟩
    refine held_quiet 12 (v := ?v12q115) rfl (by kernel_rfl) (fun _ _ _ h => h) (by assumption) rfl ?hy12q115 ?rest12q115
    case hy12q115 => (intro wS hSw; (try dsimp only at hSw); go_simp; try with_reducible rfl)
    try simp only [Act.put, List.setIfInBounds_toArray, List.set_cons_zero, List.set_cons_succ]
    refine held_quiet 13 (v := ?v13q116) rfl (by kernel_rfl) (fun _ _ _ h => h) (by assumption) rfl ?hy13q116 ?rest13q116
    case hy13q116 => (intro wS hSw; (try dsimp only at hSw); go_simp; try with_reducible rfl)
    try simp only [Act.put, List.setIfInBounds_toArray, List.set_cons_zero, List.set_cons_succ]
    refine held_done (by kernel_rfl) ?_
    clear hS4
    go_wp2
    go_roundg (n - (k + 1))
    case measure => have := HK.out; omega
    case rel => exact ⟨k + 1, D6, some (rp, sp, t6, c6), by have := HK.out; omega, rfl, rfl, rfl, by go_num, T9.out.left _ _, I6.out, G6.out, B9.out⟩
end Go.Proofs.YtjmeiifogblmoaaGreatDoor
