/- The walk of the law RingTorn, over what is asked of the program's ring, and of its records. -/
import Derived.Test.YtjmeiifogblmoaaGreatDoorMRiB
import Derived.Test.YtjmeiifogblmoaaGreatDoorRiFound
import Derived.Test.YtjmeiifogblmoaaGreatDoorDrvEnd
import Derived.Test.YtjmeiifogblmoaaGreatDoorRef12Same
namespace Go.Proofs.YtjmeiifogblmoaaGreatDoor
open Go.RowKit

def noR2 : Nat → Ri.Rcd := fun _ => ⟨0, 0, fun _ => ⟨0, 0, ⟨#[]⟩⟩⟩
set_option maxRecDepth 100000 in
set_option maxHeartbeats 8000000 in
theorem torn13_main (X : RingSays) (Y : RecSays) (ar : Option Addr) (nr capr : Nat) (rows : Nat → Nat) (a : Option Addr) (n cap : Nat) (l : Nat → ByteArray) (at2 : Option Addr) (n2 cap2 : Nat) (l2 : Nat → ByteArray) (kp : Option Addr) (nk capk : Nat) (keep : List Nat) (w : World) (hrow : RowI .u8 w ar nr (fun j => (rows j : Int))) (h8 : ∀ j, rows j < 256) (hr : RowS w a n l) (hr2 : RowS w at2 n2 l2)
    (hnk : keep.length = nk) (hkeep : RowI .u8 w kp nk (fun j => ((keep.getD j 0 : Nat) : Int))) (hk8 : ∀ j, keep.getD j 0 < 256) (hl : Ri.Light13 n l) (hl2 : Ri.Light13 n2 l2) (n1 : 1 ≤ n) (n12 : 1 ≤ n2) (n4 : nr ≤ 4) (nk50 : nk ≤ 50)
    (hh : ∀ W, Below w.heap.size w W → Calls Tryz.prog 36 #[.slice a n cap] W fun e w' => w' = W ∧ e = .returned (.bool false))
    (hh2 : ∀ W, Below w.heap.size w W → Calls Tryz.prog 36 #[.slice at2 n2 cap2] W fun e w' => w' = W ∧ e = .returned (.bool false)) :
    Calls Tryz.prog 5 #[.slice ar nr capr, .slice a n cap, .slice at2 n2 cap2, .slice kp nk capk] w fun e w' => e = .returned (.bool true) ∧ Below w.heap.size w w' := by
  have hsh := fun W => shown13_any X W
  have HSo : Hid (∀ W, Below w.heap.size w W → Calls Tryz.prog 27 #[.slice a n cap] W fun e w' => ∃ a' c', e = .returned (.slice a' (Ri.someN n) c') ∧ PartsR w' a' (Ri.someN n) (Ri.someP l) ∧ (∀ x, a' = some x → W.heap.size ≤ x.block) ∧ Below W.heap.size W w') := fun W hW => some13_any a n cap l W hl (hr.below hW)
  have HSo2 : Hid (∀ W, Below w.heap.size w W → Calls Tryz.prog 27 #[.slice at2 n2 cap2] W fun e w' => ∃ a' c', e = .returned (.slice a' (Ri.someN n2) c') ∧ PartsR w' a' (Ri.someN n2) (Ri.someP l2) ∧ (∀ x, a' = some x → W.heap.size ≤ x.block) ∧ Below W.heap.size W w') := fun W hW => some13_any at2 n2 cap2 l2 W hl2 (hr2.below hW)
  have HRow : Hid (RowI .u8 w ar nr (fun j => (rows j : Int))) := hrow
  have H8 : Hid (∀ j, rows j < 256) := h8
  have HCr : Hid (∀ W dp D, Below w.heap.size w W → Mine W w.heap.size dp D → (∀ i, (D.writes i).length ≤ 1000000) → Calls Tryz.prog 18 #[.pointer (some ⟨dp, 0, none⟩), .slice kp nk capk] W fun e w' => e = .returned (.tuple #[]) ∧ Mine w' w.heap.size dp (D.crash keep) ∧ Below w.heap.size W w') := fun W dp D hW hm hn => by
    have := crash_mine hm hn keep kp capk (by rw [hnk]; exact hkeep.below hW) (by unfold maxLen; omega) hk8 (fun h0 x hx => by
      obtain ⟨b, o, e, hc⟩ := hkeep 0 (by omega)
      rw [e] at hx
      injection hx with hx
      rw [← hx]
      exact World.block_lt_of_cell? w _ hc)
    rw [hnk] at this
    exact this
  have HL : Hid (∀ row : Nat, row < 256 → Rc.mayB (row : Int) (Ri.someN n) (Ri.someP l) = true ∧ RecIn (row : Int) (Ri.someN n) (Ri.someP l)) := fun row hr => ⟨Ri.someP_may hr n1 l, Ri.someP_in (by omega) n l⟩
  have HLi : Hid (RecLight (Ri.someN n) (Ri.someP l)) := Ri.someP_light n l
  have HL2 : Hid (Rc.mayB ((9 : Nat) : Int) (Ri.someN n2) (Ri.someP l2) = true ∧ RecIn ((9 : Nat) : Int) (Ri.someN n2) (Ri.someP l2)) := ⟨Ri.someP_may (by decide) n12 l2, Ri.someP_in (by decide) n2 l2⟩
  have HLi2 : Hid (RecLight (Ri.someN n2) (Ri.someP l2)) := Ri.someP_light n2 l2
  have HN8 : Hid (1 ≤ Ri.someN n2 ∧ Ri.someN n2 ≤ 8) := ⟨by unfold Ri.someN; omega, Nat.min_le_right _ _⟩
  have HNew : Hid (∀ (W : World), w.heap.size ≤ W.heap.size → Calls Tryz.prog 10 #[.int .i64 209] W fun e w' => ∃ p, e = .returned (.pointer (some ⟨p, 0, none⟩)) ∧ Mine w' w.heap.size p (Dr.fresh 209) ∧ Below w.heap.size W w') := fun W h => new_mine 209 w.heap.size (by decide) (by decide) W h
  have HHh : Hid (∀ W, Below w.heap.size w W → Calls Tryz.prog 36 #[.slice a n cap] W fun e w' => w' = W ∧ e = .returned (.bool false)) := hh
  have HHh2 : Hid (∀ W, Below w.heap.size w W → Calls Tryz.prog 36 #[.slice at2 n2 cap2] W fun e w' => w' = W ∧ e = .returned (.bool false)) := hh2
  have hn0 : ((n : Int) == 0) = false := by rw [beq_eq_false_iff_ne]; omega
  have hn02 : ((n2 : Int) == 0) = false := by rw [beq_eq_false_iff_ne]; omega
  have hn5' : decide ((4 : Int) < (nr : Int)) = false := by simp; omega
  have hn6' : decide ((50 : Int) < (nk : Int)) = false := by simp; omega
  clear hrow h8 hr hl n1 hh hkeep hk8 hnk hr2 hl2 n12 hh2
  go_enter Tryz.func5, Tryz.ntmps5
  go_wp2_with fail
  refine (HHh.out _ (Below.refl _ _)).mono ?_
  rintro e w1 ⟨rfl, rfl⟩
  go_wp2_with fail
  refine (HHh2.out _ (Below.refl _ _)).mono ?_
  rintro e w1 ⟨rfl, rfl⟩
  go_wp2_with fail
  refine (hsh _).mono ?_
  rintro e w2 ⟨rfl, hb2⟩
  have HB2 : Hid (Below w1.heap.size w1 w2) := hb2
  clear hb2
  go_wp2_with fail
  refine (HNew.out _ HB2.out.size).mono ?_
  rintro e w3 ⟨dp, rfl, hm3, hb3⟩
  have HM3 : Hid (Mine w3 w1.heap.size dp (Dr.fresh 209)) := hm3
  have HB3 : Hid (Below w1.heap.size w1 w3) := HB2.out.trans hb3
  clear hm3 hb3
  go_wp2_with fail
  refine (format_jn (N := 5) X HM3.out (Dr.Calm.fresh 209) (by decide) noR2).mono ?_
  rintro e w4 ⟨rfl, ⟨D4, hm4, hj4⟩, hb4⟩
  have HM4 : Hid (Mine w4 w1.heap.size dp D4 ∧ Ri.Jn D4 5 0 0 noR2) := ⟨hm4, hj4⟩
  have HB4 : Hid (Below w1.heap.size w1 w4) := HB3.out.trans hb4
  clear hm4 hj4 hb4
  go_wp2_with fail
  refine (opens_jn X HM4.out.1 HM4.out.2).mono ?_
  rintro e w5 ⟨rp, ax, cx, rfl, hm5, _, hb5⟩
  have HM5 : Hid (RJn X w5 w1.heap.size rp dp 5 0 0 noR2) := hm5
  have HB5 : Hid (Below w1.heap.size w1 w5) := HB4.out.trans hb5
  clear hm5 hb5
  go_wp2
  go_loopg [13] nr (fun gg i wr => ∃ (k : Nat) (R : Nat → Ri.Rcd), k ≤ nr ∧ gg = nr - k ∧ i = .int .i64 (k : Int) ∧ RJn X wr w1.heap.size rp dp 5 k 0 R ∧ Below w1.heap.size w1 wr)
  case atStart => exact ⟨0, _, Nat.zero_le _, rfl, rfl, HM5.out, HB5.out⟩
  case round =>
  obtain ⟨k, R, hk, rfl, rfl, hrj, hb⟩ := hrel
  have HRj : Hid (RJn X wr w1.heap.size rp dp 5 k 0 R) := hrj
  have HB : Hid (Below w1.heap.size w1 wr) := hb
  clear hrj hb
  by_cases hlt : k < nr
  case pos =>
    have hki : (k : Int) < (nr : Int) := by omega
    obtain ⟨rb, ro, rfl, hc⟩ := HRow.out k hlt
    dsimp only at hc
    have h8 := H8.out k
    obtain ⟨hM, hI⟩ := HL.out _ h8
    obtain ⟨x, hx⟩ : ∃ x, x = rows k := ⟨_, rfl⟩
    rw [← hx] at hM hI hc h8
    have HC : Hid (w1.cell? ⟨rb, ro + k, none⟩ = some (.int .u8 (x : Int))) := hc
    have HLb : Hid (rb < w1.heap.size) := World.block_lt_of_cell? w1 _ hc
    have HAp : Hid (∀ W a' c', Below wr.drew.heap.size wr.drew W → PartsR W a' (Ri.someN n) (Ri.someP l) → (∀ z, a' = some z → wr.drew.heap.size ≤ z.block) → Calls Tryz.prog 28 #[.pointer (some ⟨rp, 0, none⟩), .int .i64 (x : Int), .slice a' (Ri.someN n) c'] W fun e w' => e = .returned (.tuple #[.int .u64 ((k + 1 : Nat) : Int), .int .i64 0]) ∧ RJn X w' w1.heap.size rp dp 5 (k + 1) 0 (Ri.with1 R (k + 1) ⟨(x : Int), Ri.someN n, Ri.someP l⟩) ∧ Below w1.heap.size W w') := fun W a' c' hb hp ha =>
      (HRj.out.below (Below.refl _ _).drew).append (cap := c') hb (by decide) (by omega) (by omega) hM hI HLi.out hp (fun z hz => .inr (ha z hz))
    have hx1 : IntKind.i64.wrap (x : Int) = (x : Int) := by rw [IntKind.wrap_i64]; omega
    have s0 : wr.drew.cell? ⟨rb, ro + k, none⟩ = some (.int .u8 (x : Int)) := (HB.out.cell (p := ⟨rb, ro + k, none⟩) HLb.out).trans hc
    have b0 : Below w1.heap.size w1 wr.drew := HB.out.drew
    clear hc hM hI hx
    go_wp2
    go_region_held3 (fun W => W.cell? ⟨rb, ro + k, none⟩ = some (.int .u8 (x : Int))) (first | exact s0 | assumption) (first | (go_at_call 27; refine (HSo.out _ (by assumption)).mono ?_; rintro e w6 ⟨a6, c6, rfl, hp6, hn6, hb6⟩; have s6 := keep_at (p := ⟨rb, ro + k, none⟩) hb6 (by assumption)) | (go_at_call 28; refine (HAp.out _ _ _ (by assumption) (by assumption) (by assumption)).mono ?_; rintro e w7 ⟨rfl, hr7, hb7⟩; have s7 := (hb7.cell (p := ⟨rb, ro + k, none⟩) HLb.out).trans (by assumption)))
    have HR7 : Hid (RJn X w7 w1.heap.size rp dp 5 (k + 1) 0 (Ri.with1 R (k + 1) ⟨(x : Int), Ri.someN n, Ri.someP l⟩)) := hr7
    have HB7 : Hid (Below w1.heap.size w1 w7) := (b0.trans (hb6.mono b0.size)).trans hb7
    clear hr7 hb7 s7 s6 hb6 hp6 hn6 b0 s0
    go_wp2
    go_roundg (nr - (k + 1))
    case measure => omega
    case rel => exact ⟨k + 1, _, by omega, rfl, by go_num, HR7.out, HB7.out⟩
  case neg =>
    have hkn : k = nr := by omega
    subst hkn
    obtain ⟨wo, hwo⟩ : ∃ wo, wo = wr := ⟨_, rfl⟩
    subst hwo
    obtain ⟨D6, hm6, hj6⟩ := HRj.out.drive
    have HJ6 : Hid (Ri.Jn D6 5 k 0 R) := hj6
    have HD6 : Hid (DriveAt wo dp D6 (fun x => w1.heap.size ≤ x ∧ x < wo.heap.size)) := hm6.1.tight
    obtain ⟨m, hm⟩ : ∃ m, m = k + 1 := ⟨_, rfl⟩
    have HM : Hid (m = k + 1) := hm
    have hkw : IntKind.u64.wrap (k : Int) = (k : Int) := by rw [IntKind.wrap_u64]; omega
    have hmw : (k : Int) + 1 = (m : Int) := by omega
    have hmw2 : IntKind.u64.wrap (m : Int) = (m : Int) := by rw [IntKind.wrap_u64]; omega
    have hm5 : m ≤ 5 := by omega
    have HE : Hid (∀ W a' c', PartsR W a' (Ri.someN n2) (Ri.someP l2) → Calls Tryz.prog 38 #[.agg #[.int .u64 (m : Int), .int .i64 9, .slice a' (Ri.someN n2) c']] W (EncOwn W m ((9 : Nat) : Int) (Ri.someN n2) (Ri.someP l2))) := fun W a' c' hp => Y.enc m ((9 : Nat) : Int) a' (Ri.someN n2) c' (Ri.someP l2) W (by omega) HL2.out.2 HLi2.out hp
    obtain ⟨r0, hr0⟩ : ∃ r0 : Ri.Rcd, r0 = ⟨((9 : Nat) : Int), Ri.someN n2, Ri.someP l2⟩ := ⟨_, rfl⟩
    have HR0 : Hid (r0 = ⟨((9 : Nat) : Int), Ri.someN n2, Ri.someP l2⟩) := hr0
    have HMay : Hid (r0.may) := by show Rc.mayB _ _ _ = true; rw [hr0]; exact HL2.out.1
    obtain ⟨hd, hhd⟩ : ∃ hd, hd = r0.head m := ⟨_, rfl⟩
    have HHd : Hid (hd = r0.head m) := hhd
    have hd64 : hd.size = 64 := by
      obtain ⟨hfu, hpl⟩ := (Rc.may_iff _ _ _).1 HL2.out.1
      rw [hhd, hr0]
      have h64 : m < 18446744073709551616 := by omega
      have h40 : Ri.someN n2 ≤ 40 := by have := HN8.out; omega
      have h256 : Ri.someN n2 < 256 := by omega
      show (Rc.headS m ((9 : Nat) : Int) (Ri.someN n2) (Ri.someP l2) (Rc.sumF (Ri.someN n2) (Ri.someP l2))).size = 64
      exact Rc.headS_size h64 (by decide) h256 (Rc.sumF_lt _ _) h40 _
    have HHs : Hid (hd.size = 64) := hd64
    have HEe : Hid (Rc.encE ((9 : Nat) : Int) (Ri.someN n2) (Ri.someP l2) = 0 ∧ Rc.encN ((9 : Nat) : Int) (Ri.someN n2) (Ri.someP l2) = Ri.someN n2 ∧ Rc.encT m ((9 : Nat) : Int) (Ri.someN n2) (Ri.someP l2) = hd) := by
      refine ⟨?_, ?_, ?_⟩
      · unfold Rc.encE; rw [HL2.out.1]; rfl
      · unfold Rc.encN; rw [HL2.out.1]; rfl
      · unfold Rc.encT; rw [HL2.out.1, hhd, hr0]; rfl
    obtain ⟨p5, hp5⟩ : ∃ p5, p5 = m % 5 := ⟨_, rfl⟩
    have hmod1 : (m : Int).tmod 5 = (p5 : Int) := by rw [Int.tmod_eq_emod_of_nonneg (by omega)]; omega
    have hmod2 : (m : Int) % 5 = (p5 : Int) := by omega
    have hp5l : p5 < 5 := by omega
    have hpw1 : IntKind.u64.wrap (p5 : Int) = (p5 : Int) := by rw [IntKind.wrap_u64]; omega
    have hpw2 : IntKind.i64.wrap (p5 : Int) = (p5 : Int) := by rw [IntKind.wrap_i64]; omega
    obtain ⟨q41, hq41⟩ : ∃ q, q = 41 * p5 := ⟨_, rfl⟩
    have hq1 : (41 : Int) * (p5 : Int) = (q41 : Int) := by omega
    obtain ⟨z, hz⟩ : ∃ z, z = 4 + 41 * p5 := ⟨_, rfl⟩
    have hq2 : (4 : Int) + (q41 : Int) = (z : Int) := by omega
    have HZ : Hid (z = Ri.first 209 m ∧ z ≤ 168) := ⟨by rw [hz, hp5]; rfl, by omega⟩
    clear hm6 hj6 hlt hk hm hr0 hhd hd64 hp5 hq41 hz
    go_wp2_with fail
    refine (HSo2.out _ HB.out).mono ?_
    rintro e w6 ⟨a6, c6, rfl, hp6, hn6, hb6⟩
    have HB6 : Hid (Below wo.heap.size wo w6) := hb6
    have HP6 : Hid (PartsR w6 a6 (Ri.someN n2) (Ri.someP l2)) := hp6
    clear hp6 hn6 hb6
    go_wp2_with fail
    refine (HE.out _ _ _ HP6.out).mono ?_
    rintro e w7 ⟨v, rfl, hown, hb7⟩
    rw [HEe.out.2.1] at hown
    rw [HEe.out.1, HEe.out.2.2]
    have hlow := hown.lt
    obtain ⟨aL, cL, rfl, hrs, _, _⟩ := RowS.of_owns hown
    have HRs : Hid (RowS w7 aL (Ri.someN n2) (fun j => (Ri.someP l2 j).data)) := hrs
    have HB7 : Hid (Below wo.heap.size wo w7) := below2 HB6.out hb7
    have HLow : Hid (∀ x, aL = some x → wo.heap.size ≤ x.block ∧ x.block < w7.heap.size) := fun x hx => by
      have h2 := hlow x.block (by rw [hx]; rfl)
      exact ⟨Nat.le_trans HB6.out.size h2.1, h2.2⟩
    have HP7 : Hid (PEnd w7 w7 dp D6 (fun x => w1.heap.size ≤ x ∧ x < wo.heap.size)) := PEnd.refl (HD6.out.below HB7.out)
    clear hown hrs hlow hb7
    obtain ⟨N2, hN2⟩ : ∃ N2, N2 = Ri.someN n2 := ⟨_, rfl⟩
    have HNN : Hid (N2 = Ri.someN n2) := hN2
    have hN8 : 1 ≤ N2 ∧ N2 ≤ 8 := by have := HN8.out; omega
    rw [← hN2]
    have HW : Hid (∀ W (D : Dr) (i : Nat) (s : ByteArray), PEnd w7 W dp D (fun x => w1.heap.size ≤ x ∧ x < wo.heap.size) → D.Live 209 → (∀ i, (D.writes i).length ≤ 900000) → i < 209 → s.size = 64 → Calls Tryz.prog 20 #[.pointer (some ⟨dp, 0, none⟩), .int .i64 (i : Nat), .string s] W fun e w' => e = .returned (.int .i64 0) ∧ PEnd w7 w' dp (D.put i s.data.toList) (fun x => w1.heap.size ≤ x ∧ x < wo.heap.size)) := fun W D i s hp hv hf hi hs => by
      have := pWr1 hp.1 (fun i => Nat.le_trans (hf i) (by decide)) i s hs
      rw [Dr.wr1_live hv hi] at this
      exact this.mono fun e w' ⟨he, hd, ho⟩ => ⟨he, hp.step hd ho⟩
    obtain ⟨DP, hDP⟩ : ∃ DP : Nat → Dr, DP = D6.puts (fun j => Ri.first D6.safe.length m + 1 + j) (fun j => (r0.f j).data.data.toList) := ⟨_, rfl⟩
    have hl209 : D6.safe.length = 209 := HJ6.out.calm.live.len
    have HDl : Hid (∀ j, (DP j).Live 209) := fun j => by rw [hDP]; exact Dr.Live.puts HJ6.out.calm.live _ _ j
    have HDf : Hid (∀ j, j ≤ 8 → ∀ i, ((DP j).writes i).length ≤ 900000) := fun j hj i => by
      have h1 : (DP j).Few (0 + j) := by
        rw [hDP, ← show (Dr.wrTo (0, D6) (fun j => Ri.first D6.safe.length m + 1 + j) (fun j => (r0.f j).data.data.toList) j).2 = D6.puts (fun j => Ri.first D6.safe.length m + 1 + j) (fun j => (r0.f j).data.data.toList) j from by
          rw [Dr.wrTo_live HJ6.out.calm.live _ (fun i hi => by rw [hl209, ← HZ.out.1]; have := HZ.out.2; omega)]]
        exact Dr.Few.wrTo (x := (0, D6)) (fun i => by rw [HJ6.out.calm.none i]; exact Nat.le_refl _) _ _ j
      exact Nat.le_trans (h1 i) (by omega)
    have HD0 : Hid (DP 0 = D6) := by show _ = _; rw [hDP]; rfl
    have HDs : Hid (∀ j, DP (j + 1) = (DP j).put (z + 1 + j) (Ri.someP l2 j).data.data.toList) := fun j => by
      rw [hDP]
      show (Dr.puts _ _ _ j).put (Ri.first D6.safe.length m + 1 + j) (r0.f j).data.data.toList = _
      rw [hl209, ← HZ.out.1, HR0.out]
    have H64 : Hid (∀ j, j < N2 → (Ri.someP l2 j).data.size = 64) := fun j _ => Rc.fillB_size _
    have HDP : Hid (DP = D6.puts (fun j => Ri.first D6.safe.length m + 1 + j) (fun j => (r0.f j).data.data.toList)) := hDP
    have hz168 : z ≤ 168 := HZ.out.2
    clear hN2 hDP hl209
    go_wp2
    go_loopg [21] N2 (fun gg i wq => ∃ j : Nat, j ≤ N2 ∧ gg = N2 - j ∧ i = .int .i64 (j : Int) ∧ PEnd w7 wq dp (DP j) (fun x => w1.heap.size ≤ x ∧ x < wo.heap.size))
    case atStart => exact ⟨0, Nat.zero_le _, rfl, rfl, by rw [HD0.out]; exact HP7.out⟩
    case round =>
    obtain ⟨j, hj, rfl, rfl, hp⟩ := hrel
    have HPj : Hid (PEnd w7 wr dp (DP j) (fun x => w1.heap.size ≤ x ∧ x < wo.heap.size)) := hp
    clear hp
    by_cases hlt : j < N2
    case pos =>
      have hji : (j : Int) < (N2 : Int) := by omega
      obtain ⟨bL, oL, rfl, hcl⟩ := HRs.out j (by rw [← HNN.out]; exact hlt)
      have hcw : wr.cell? ⟨bL, oL + j, none⟩ = some (.string (Ri.someP l2 j).data) := (World.cell?_of_block (w := w7) (a := ⟨bL, oL + j, none⟩) (HPj.out.2.block bL (World.block_lt_of_cell? w7 _ hcl) (fun e => by have := e.2; have := (HLow.out _ rfl).1; dsimp only at this; omega))).trans hcl
      obtain ⟨q, hq⟩ : ∃ q, q = z + 1 + j := ⟨_, rfl⟩
      have hw := HW.out wr (DP j) q (Ri.someP l2 j).data HPj.out (HDl.out j) (HDf.out j (by omega)) (by omega) (H64.out j hlt)
      have hs := HDs.out j
      rw [← hq] at hs
      rw [← hs] at hw
      obtain ⟨z1, hz1⟩ : ∃ z1, z1 = z + 1 := ⟨_, rfl⟩
      have hz2 : (z : Int) + 1 = (z1 : Int) := by omega
      have hz3 : (z1 : Int) + (j : Int) = (q : Int) := by omega
      have hq6 : q ≤ 300 := by omega
      obtain ⟨s, hsx⟩ : ∃ s, s = (Ri.someP l2 j).data := ⟨_, rfl⟩
      rw [← hsx] at hw hcw
      have HLn : Hid (j < N2) := hlt
      clear hcl hs hq hz1 hsx hlt
      go_wp2_with fail
      refine hw.mono ?_
      rintro e w9 ⟨rfl, hp9⟩
      have HP9 : Hid (PEnd w7 w9 dp (DP (j + 1)) (fun x => w1.heap.size ≤ x ∧ x < wo.heap.size)) := hp9
      clear hp9 hw hcw
      go_wp2
      go_roundg (N2 - (j + 1))
      case measure => have := HLn.out; omega
      case rel => exact ⟨j + 1, by have := HLn.out; omega, rfl, by go_num, HP9.out⟩
    case neg =>
      have hjn : j = N2 := by omega
      subst hjn
      have hsp : ∀ i, (DP j).spoilt.getD i false = false := fun i => by rw [HDP.out]; exact Dr.puts_spoilt HJ6.out.calm.spoilt _ _ j i
      have hcalm : (DP j).calmed.Calm 209 := Dr.Live.calmed (HDl.out j) hsp
      have hfl := pFl1 HPj.out.1 (fun i => Nat.le_trans (HDf.out j (by omega) i) (by decide))
      rw [Dr.fl1_live (HDl.out j)] at hfl
      have HFl : Hid (Calls Tryz.prog 39 #[.pointer (some ⟨dp, 0, none⟩)] wr fun e w' => e = .returned (.int .i64 0) ∧ PEnd w7 w' dp (DP j).calmed (fun x => w1.heap.size ≤ x ∧ x < wo.heap.size)) := hfl.mono fun e w' ⟨he, hd, ho⟩ => ⟨he, HPj.out.same hd ho⟩
      have HCa : Hid ((DP j).calmed.Calm 209) := hcalm
      have HDr : Hid (∀ keep, Ri.Jn (((DP j).calmed.put z hd.data.toList).crash keep) 5 k 0 R ∨ Ri.Jn (((DP j).calmed.put z hd.data.toList).crash keep) 5 m 0 (Ri.with1 R m r0)) := fun keep => by
        have := HJ6.out.torn (r := r0) (by omega) HMay.out (by omega) keep
        rw [show r0.n = j by rw [HR0.out]; exact HNN.out.symm, ← HM.out, HJ6.out.calm.live.len, show Ri.first (4 + 41 * 5) m = z from HZ.out.1.symm, ← HHd.out] at this
        rw [HDP.out, HJ6.out.calm.live.len, show Ri.first (4 + 41 * 5) m = z from HZ.out.1.symm]
        exact this
      clear hfl hsp hcalm hlt hj
      go_wp2_with fail
      refine HFl.out.mono ?_
      rintro e w9 ⟨rfl, hp9⟩
      have hw := HW.out w9 (DP j).calmed z hd hp9 HCa.out.live (fun i => by rw [HCa.out.none i]; exact Nat.zero_le _) (by omega) HHs.out
      clear hp9
      go_wp2_with fail
      refine hw.mono ?_
      rintro e w10 ⟨rfl, hp10⟩
      have HB10 : Hid (Below w1.heap.size w1 w10) := (below2 HB.out HB7.out).trans (hp10.2.below (fun k hk => hk.1) (Nat.le_trans HB.out.size HB7.out.size))
      have HM10 : Hid (Mine w10 w1.heap.size dp ((DP j).calmed.put z hd.data.toList)) := ⟨hp10.1.mono (fun k hk => hk.elim (fun x => x.1) (fun x => Nat.le_trans (Nat.le_trans HB.out.size HB7.out.size) x)), HB10.out.size⟩
      have HFw : Hid (∀ i, (((DP j).calmed.put z hd.data.toList).writes i).length ≤ 1000000) := fun i => Nat.le_trans (Dr.Few.put (B := 0) (fun i => by rw [HCa.out.none i]; exact Nat.le_refl _) z _ i) (by decide)
      clear hp10 hw
      go_wp2_with fail
      refine (HCr.out _ _ _ HB10.out HM10.out HFw.out).mono ?_
      rintro e w11 ⟨rfl, hm11, hb11⟩
      have HM11 : Hid (Mine w11 w1.heap.size dp (((DP j).calmed.put z hd.data.toList).crash keep)) := hm11
      have HB11 : Hid (Below w1.heap.size w1 w11) := HB10.out.trans hb11
      clear hm11 hb11
      have hkk : decide ((k : Int) < (k : Int)) = false := by rw [decide_eq_false_iff_not]; omega
      rcases HDr.out keep with hjn | hjn
      · have HJ : Hid _ := hjn
        have hop := opens_jn X HM11.out hjn
        rw [Nat.sub_zero] at hop
        have hk1 : ¬ (k : Int) + 1 < (k : Int) := by omega
        clear hjn
        go_wp2_with fail
        refine hop.mono ?_
        rintro e w12 ⟨rp8, a8, c8, rfl, _, _, hb12⟩
        have HB12 : Hid (Below w1.heap.size w1 w12) := HB11.out.trans hb12
        clear hb12 hop
        go_wp2
        go_ret
        exact ⟨rfl, HB12.out⟩
      · have HJ : Hid (Ri.Jn (((DP j).calmed.put z hd.data.toList).crash keep) 5 m 0 (Ri.with1 R m r0)) := hjn
        have hop := opens_jn X HM11.out hjn
        rw [Nat.sub_zero] at hop
        have hmk : decide ((m : Int) < (k : Int)) = false := by rw [decide_eq_false_iff_not]; have := HM.out; omega
        have hmm : decide ((m : Int) < (m : Int)) = false := by rw [decide_eq_false_iff_not]; omega
        have hne : ((m : Int) == (k : Int)) = false := by rw [beq_eq_false_iff_ne]; have := HM.out; omega
        have hkm : (k : Int) < (m : Int) := by have := HM.out; omega
        obtain ⟨f1, f2, f3⟩ := Ri.Jn.found hjn (m := m) (by have := HM.out; omega) (Nat.le_refl _)
        rw [Ri.with1_same, HR0.out] at f1 f2 f3
        clear hjn
        go_wp2_with fail
        refine hop.mono ?_
        rintro e w12 ⟨rp8, a8, c8, rfl, _, hrec, hb12⟩
        have HB12 : Hid (Below w1.heap.size w1 w12) := HB11.out.trans hb12
        obtain ⟨bL, oL, ap, cp, rfl, c0, c1, c2, hpp⟩ := hrec k (by have := HM.out; omega)
        have e0 : 0 + (k + 1) = m := by have := HM.out; omega
        dsimp only [Ri.recT] at c0 c1 c2 hpp f1 f2 f3
        rw [e0] at c0 c1 c2 hpp
        rw [f1] at c1
        rw [f2] at c2 hpp
        have HPp : Hid (PartsR w12 ap (Ri.someN n2) (Ri.someP l2)) := hpp.congr f3
        have h8n : Ri.someN n2 ≤ 8 := Nat.min_le_right _ _
        have HTh : Hid (∀ W a' c', PartsR W a' (Ri.someN n2) (Ri.someP l2) → Calls Tryz.prog 30 #[.slice a' (Ri.someN n2) c'] W fun e w' => ∃ a2 c2, e = .returned (.slice a2 (Ri.someN n2) c2) ∧ PartsR w' a2 (Ri.someN n2) (Ri.someP l2) ∧ Below W.heap.size W w') := fun W a' c' hp => theirs13_any a' (Ri.someN n2) c' (Ri.someP l2) W (by omega) hp
        have HSm : Hid (∀ W a' c' a2 c2, PartsR W a' (Ri.someN n2) (Ri.someP l2) → PartsR W a2 (Ri.someN n2) (Ri.someP l2) → Calls Tryz.prog 37 #[.agg #[.int .u64 0, .int .i64 0, .slice a' (Ri.someN n2) c'], .agg #[.int .u64 0, .int .i64 0, .slice a2 (Ri.someN n2) c2]] W fun e w' => e = .returned (.bool true) ∧ Below W.heap.size W w') := fun W a' c' a2 c2 h1 h2 => by
          have := rSame12_any 0 0 (Ri.someN n2) (Ri.someN n2) c' c2 0 0 a' a2 (Ri.someP l2) (Ri.someP l2) W (by omega) h1 h2
          rw [(Rc.sameR_iff _ _ _ _ _ _ _ _).2 ⟨rfl, rfl, rfl, fun _ _ => rfl⟩] at this
          exact this
        clear hrec hb12 hop f1 f2 f3 hpp e0 c0 h8n
        go_wp2_with fail
        refine (HTh.out _ _ _ HPp.out).mono ?_
        rintro e u1 ⟨a1, c1', rfl, hp1, hb1⟩
        have HU1 : Hid (Below w1.heap.size w1 u1) := below2 HB12.out hb1
        have HP1 : Hid (PartsR u1 a1 (Ri.someN n2) (Ri.someP l2)) := hp1
        clear hp1 hb1 c1 c2
        go_wp2_with fail
        refine (HSo2.out _ HU1.out).mono ?_
        rintro e u2 ⟨a2, c2', rfl, hp2, _, hb2⟩
        have HU2 : Hid (Below w1.heap.size w1 u2) := below2 HU1.out hb2
        have HP12 : Hid (PartsR u2 a1 (Ri.someN n2) (Ri.someP l2)) := HP1.out.below hb2
        have HP2 : Hid (PartsR u2 a2 (Ri.someN n2) (Ri.someP l2)) := hp2
        clear hp2 hb2
        go_wp2_with fail
        refine (HTh.out _ _ _ HP2.out).mono ?_
        rintro e u3 ⟨a3, c3', rfl, hp3, hb3⟩
        have HU3 : Hid (Below w1.heap.size w1 u3) := below2 HU2.out hb3
        have HP13 : Hid (PartsR u3 a1 (Ri.someN n2) (Ri.someP l2)) := HP12.out.below hb3
        have HP3 : Hid (PartsR u3 a3 (Ri.someN n2) (Ri.someP l2)) := hp3
        clear hp3 hb3
        go_wp2_with fail
        refine (HSm.out _ _ _ _ _ HP13.out HP3.out).mono ?_
        rintro e u4 ⟨rfl, hb4⟩
        have HU4 : Hid (Below w1.heap.size w1 u4) := below2 HU3.out hb4
        clear hb4
        go_wp2
        go_ret
        exact ⟨rfl, HU4.out⟩
set_option maxRecDepth 100000 in
set_option maxHeartbeats 4000000 in
theorem torn13_out (X : RingSays) (ar : Option Addr) (nr capr : Nat) (a : Option Addr) (n cap : Nat) (at2 : Option Addr) (n2 cap2 : Nat) (kp : Option Addr) (nk capk : Nat) (w : World) (b1 b2 : Bool)
    (hc : b1 = true ∨ b1 = false ∧ (b2 = true ∨ b2 = false ∧ (n = 0 ∨ 1 ≤ n ∧ (n2 = 0 ∨ 1 ≤ n2 ∧ (4 < nr ∨ nr ≤ 4 ∧ 50 < nk)))))
    (hh : Calls Tryz.prog 36 #[.slice a n cap] w fun e w' => w' = w ∧ e = .returned (.bool b1)) (hh2 : Calls Tryz.prog 36 #[.slice at2 n2 cap2] w fun e w' => w' = w ∧ e = .returned (.bool b2)) :
    Calls Tryz.prog 5 #[.slice ar nr capr, .slice a n cap, .slice at2 n2 cap2, .slice kp nk capk] w fun e w' => e = .returned (.bool true) ∧ Below w.heap.size w w' := by
  have hsh := fun W => shown13_any X W
  rcases hc with rfl | ⟨rfl, rfl | ⟨rfl, rfl | ⟨n1, rfl | ⟨n12, h4 | ⟨h4, h50⟩⟩⟩⟩⟩
  · go_enter Tryz.func5, Tryz.ntmps5
    go_wp2_with fail
    refine hh.mono ?_
    rintro e w1 ⟨rfl, rfl⟩
    go_wp2_with fail
    refine (hsh _).mono ?_
    rintro e w2 ⟨rfl, hb2⟩
    go_wp2
    go_ret
    exact ⟨rfl, hb2⟩
  · go_enter Tryz.func5, Tryz.ntmps5
    go_wp2_with fail
    refine hh.mono ?_
    rintro e w1 ⟨rfl, rfl⟩
    go_wp2_with fail
    refine hh2.mono ?_
    rintro e w1 ⟨rfl, rfl⟩
    go_wp2_with fail
    refine (hsh _).mono ?_
    rintro e w2 ⟨rfl, hb2⟩
    go_wp2
    go_ret
    exact ⟨rfl, hb2⟩
  · go_enter Tryz.func5, Tryz.ntmps5
    go_wp2_with fail
    refine hh.mono ?_
    rintro e w1 ⟨rfl, rfl⟩
    go_wp2_with fail
    refine hh2.mono ?_
    rintro e w1 ⟨rfl, rfl⟩
    go_wp2_with fail
    refine (hsh _).mono ?_
    rintro e w2 ⟨rfl, hb2⟩
    go_wp2
    go_ret
    exact ⟨rfl, hb2⟩
  · have hn0 : ((n : Int) == 0) = false := by rw [beq_eq_false_iff_ne]; omega
    clear n1
    go_enter Tryz.func5, Tryz.ntmps5
    go_wp2_with fail
    refine hh.mono ?_
    rintro e w1 ⟨rfl, rfl⟩
    go_wp2_with fail
    refine hh2.mono ?_
    rintro e w1 ⟨rfl, rfl⟩
    go_wp2_with fail
    refine (hsh _).mono ?_
    rintro e w2 ⟨rfl, hb2⟩
    go_wp2
    go_ret
    exact ⟨rfl, hb2⟩
  · have hn0 : ((n : Int) == 0) = false := by rw [beq_eq_false_iff_ne]; omega
    have hn02 : ((n2 : Int) == 0) = false := by rw [beq_eq_false_iff_ne]; omega
    have h5 : decide ((4 : Int) < (nr : Int)) = true := by rw [decide_eq_true_iff]; omega
    clear n1 n12 h4
    go_enter Tryz.func5, Tryz.ntmps5
    go_wp2_with fail
    refine hh.mono ?_
    rintro e w1 ⟨rfl, rfl⟩
    go_wp2_with fail
    refine hh2.mono ?_
    rintro e w1 ⟨rfl, rfl⟩
    go_wp2_with fail
    refine (hsh _).mono ?_
    rintro e w2 ⟨rfl, hb2⟩
    go_wp2
    go_ret
    exact ⟨rfl, hb2⟩
  · have hn0 : ((n : Int) == 0) = false := by rw [beq_eq_false_iff_ne]; omega
    have hn02 : ((n2 : Int) == 0) = false := by rw [beq_eq_false_iff_ne]; omega
    have h5 : decide ((4 : Int) < (nr : Int)) = false := by rw [decide_eq_false_iff_not]; omega
    have h6 : decide ((50 : Int) < (nk : Int)) = true := by rw [decide_eq_true_iff]; omega
    clear n1 n12 h4 h50
    go_enter Tryz.func5, Tryz.ntmps5
    go_wp2_with fail
    refine hh.mono ?_
    rintro e w1 ⟨rfl, rfl⟩
    go_wp2_with fail
    refine hh2.mono ?_
    rintro e w1 ⟨rfl, rfl⟩
    go_wp2_with fail
    refine (hsh _).mono ?_
    rintro e w2 ⟨rfl, hb2⟩
    go_wp2
    go_ret
    exact ⟨rfl, hb2⟩
/-- the law RingTorn, whatever comes in -/
theorem torn13_says (X : RingSays) (Y : RecSays) (ar : Option Addr) (nr capr : Nat) (rows : Nat → Nat) (a : Option Addr) (n cap : Nat) (l : Nat → ByteArray) (at2 : Option Addr) (n2 cap2 : Nat) (l2 : Nat → ByteArray) (kp : Option Addr) (nk capk : Nat) (keep : List Nat) (w : World) (hrow : RowI .u8 w ar nr (fun j => (rows j : Int))) (h8 : ∀ j, rows j < 256) (hr : RowS w a n l) (hr2 : RowS w at2 n2 l2)
    (hnk : keep.length = nk) (hkeep : RowI .u8 w kp nk (fun j => ((keep.getD j 0 : Nat) : Int))) (hk8 : ∀ j, keep.getD j 0 < 256) (hm : ∀ j, j < n → (l j).size ≤ maxLen) (hn : n ≤ maxLen) (hm2 : ∀ j, j < n2 → (l2 j).size ≤ maxLen) (hn2 : n2 ≤ maxLen) :
    Calls Tryz.prog 5 #[.slice ar nr capr, .slice a n cap, .slice at2 n2 cap2, .slice kp nk capk] w fun e w' => e = .returned (.bool true) ∧ Below w.heap.size w w' := by
  rcases heavy13_one w a n cap l hr hm hn with hh | ⟨hl, hh⟩
  · rcases heavy13_one w at2 n2 cap2 l2 hr2 hm2 hn2 with hh2 | ⟨hl2, hh2⟩
    · exact torn13_out X ar nr capr a n cap at2 n2 cap2 kp nk capk w true true (.inl rfl) hh hh2
    · exact torn13_out X ar nr capr a n cap at2 n2 cap2 kp nk capk w true false (.inl rfl) hh (hh2 w (Below.refl _ _))
  · have h1 := hh w (Below.refl _ _)
    rcases heavy13_one w at2 n2 cap2 l2 hr2 hm2 hn2 with hh2 | ⟨hl2, hh2⟩
    · exact torn13_out X ar nr capr a n cap at2 n2 cap2 kp nk capk w false true (.inr ⟨rfl, .inl rfl⟩) h1 hh2
    · have h2 := hh2 w (Below.refl _ _)
      by_cases hc : n = 0 ∨ 1 ≤ n ∧ (n2 = 0 ∨ 1 ≤ n2 ∧ (4 < nr ∨ nr ≤ 4 ∧ 50 < nk))
      · exact torn13_out X ar nr capr a n cap at2 n2 cap2 kp nk capk w false false (.inr ⟨rfl, .inr ⟨rfl, hc⟩⟩) h1 h2
      · exact torn13_main X Y ar nr capr rows a n cap l at2 n2 cap2 l2 kp nk capk keep w hrow h8 hr hr2 hnk hkeep hk8 hl hl2 (by omega) (by omega) (by omega) (by omega) hh hh2
end Go.Proofs.YtjmeiifogblmoaaGreatDoor
