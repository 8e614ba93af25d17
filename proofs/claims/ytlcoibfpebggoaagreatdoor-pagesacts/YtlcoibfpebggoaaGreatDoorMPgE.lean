/- Several texts in one. The walks of the document's own Save and Load of a page, on whatever such a drive. The walk of the document's own All. Eight bytes joined one by one: plain. The walk of the document's own Join. -/
import Derived.Test.YtlcoibfpebggoaaGreatDoorRef11Dec
import Derived.Test.YtlcoibfpebggoaaGreatDoorMPgC
import Derived.Test.YtlcoibfpebggoaaGreatDoorMRefB
import Derived.Test.YtlcoibfpebggoaaGreatDoorRefMany
import Derived.Test.YtlcoibfpebggoaaGreatDoorKitRound
import Derived.Deep.LoopGhost
import Derived.Test.YtlcoibfpebggoaaGreatDoorPgDr
namespace Go.Proofs.YtlcoibfpebggoaaGreatDoor
open Go.RowKit

/-- nothing but what is new has turned: the drive stays, its footprint may grow -/
theorem rkept11 {w w' : World} {p : Nat} {D : Dr} {F : Nat → Prop} (h : RefAt w p D F) (hb : Below w.heap.size w w') : RefAt w' p D (Plus F w.heap.size) ∧ Only F w w' :=
  ⟨(h.below hb).mono fun _ hk => .inl hk, Only.of_below hb F⟩

set_option maxRecDepth 100000 in
set_option maxHeartbeats 2000000 in
theorem rsave11_arg {w : World} {r : Nat} {D : Dr} {F : Nat → Prop} (h : RefAt w r D F) (_hg : D.goes = false) (p : Pge) (hev : p.ev < 18446744073709551616) (hb : p.bits.size ≠ 8) :
    Calls Tryz.prog 15 #[.pointer (some ⟨r, 0, none⟩), pgV p] w fun e w' => e = .returned (.int .i64 1) ∧ RefAt w' r D (Plus F w.heap.size) ∧ Only F w w' := by
  have hE := fun W => rEncode11_any p hev W
  rw [show Pg.encT p = ⟨#[]⟩ from if_neg hb, show Pg.encE p = 1 from if_neg hb] at hE
  have H : Hid (RefAt w r D F) := h
  obtain ⟨ev, bits⟩ := p
  unfold pgV at hE ⊢
  clear h hb
  go_enter Tryz.func15, Tryz.ntmps15
  go_wp2_with fail
  refine (hE _).mono ?_
  rintro e w1 ⟨rfl, hb1⟩
  have HB : Hid (Below w.heap.size w w1) := ((Below.refl w.heap.size w).alloc (Nat.le_refl _) _).trans (hb1.mono (by simp))
  clear hE hb1
  go_wp2
  go_ret
  exact ⟨rfl, rkept11 H.out HB.out⟩

set_option maxRecDepth 100000 in
set_option maxHeartbeats 2000000 in
theorem rsave11_no {w : World} {r : Nat} {D : Dr} {F : Nat → Prop} (h : RefAt w r D F) (hg : D.goes = false) (p : Pge) (hev : p.ev < 18446744073709551616) (hb : p.bits.size = 8) (ht : D.reachE 2 ≠ 0) :
    Calls Tryz.prog 15 #[.pointer (some ⟨r, 0, none⟩), pgV p] w fun e w' => e = .returned (.int .i64 (D.reachE 2 : Nat)) ∧ RefAt w' r D (Plus F w.heap.size) ∧ Only F w w' := by
  have hE := fun W => rEncode11_any p hev W
  rw [show Pg.encT p = Pg.secT p from if_pos hb, show Pg.encE p = 0 from if_pos hb] at hE
  have e3 := Pg.secT_size hev hb
  have hW := fun (W : World) (hW : RefAt W r D F) => rWrite_no hW hg 2 (Pg.secT p) ht
  obtain ⟨q, eq⟩ : ∃ q, q = D.reachE 2 := ⟨_, rfl⟩
  rw [← eq] at hW ht ⊢
  have hne : ((q : Int) != 0) = true := by simp only [bne_iff_ne, ne_eq]; omega
  obtain ⟨t, et⟩ : ∃ t, t = Pg.secT p := ⟨_, rfl⟩
  rw [← et] at hE hW
  have H : Hid (RefAt w r D F) := h
  have HW : Hid _ := hW
  obtain ⟨ev, bits⟩ := p
  unfold pgV at hE ⊢
  clear h hb e3 et hW ht hg eq
  go_enter Tryz.func15, Tryz.ntmps15
  go_wp2_with fail
  refine (hE _).mono ?_
  rintro e w1 ⟨rfl, hb1⟩
  have HB : Hid (Below w.heap.size w w1) := ((Below.refl w.heap.size w).alloc (Nat.le_refl _) _).trans (hb1.mono (by simp))
  have hw := HW.out w1 (H.out.below HB.out)
  clear hE hb1
  go_wp2_with fail
  refine hw.mono ?_
  rintro e w2 ⟨rfl, rfl⟩
  go_wp2
  go_ret
  exact ⟨rfl, rkept11 H.out HB.out⟩

set_option maxRecDepth 100000 in
set_option maxHeartbeats 2000000 in
theorem rsave11_yes {w : World} {r : Nat} {D : Dr} {F : Nat → Prop} (h : RefAt w r D F) (hg : D.goes = false) (p : Pge) (hev : p.ev < 18446744073709551616) (hd : D.dead = false) (hb : p.bits.size = 8) (ht : D.reachE 2 = 0) (hi : 2 < D.safe.length) (hlen : ∀ i, (D.writes i).length < 1000000) :
    Calls Tryz.prog 15 #[.pointer (some ⟨r, 0, none⟩), pgV p] w fun e w' => e = .returned (.int .i64 0) ∧ RefAt w' r ((D.put 2 (Pg.secT p).data.toList).settle fun _ c => c) (Plus F w.heap.size) ∧ Only F w w' := by
  have hE := fun W => rEncode11_any p hev W
  rw [show Pg.encT p = Pg.secT p from if_pos hb, show Pg.encE p = 0 from if_pos hb] at hE
  have e3 := Pg.secT_size hev hb
  have hW := fun (W : World) (hW : RefAt W r D F) => rWrite_yes hW hg 2 hi ht (Nat.le_of_lt (hlen _)) (Pg.secT p) e3
  have hlen2 : ∀ i, ((D.put 2 (Pg.secT p).data.toList).writes i).length ≤ 1000000 := fun i => by
    show (if i = 2 then D.writes 2 ++ [(Pg.secT p).data.toList] else D.writes i).length ≤ _
    split
    · have := hlen 2; simp; omega
    · exact Nat.le_of_lt (hlen i)
  have hg2 : (D.put 2 (Pg.secT p).data.toList).goes = false := hg
  have hd2 : (D.put 2 (Pg.secT p).data.toList).dead = false := hd
  obtain ⟨D2, eD⟩ : ∃ D2, D2 = D.put 2 (Pg.secT p).data.toList := ⟨_, rfl⟩
  rw [← eD] at hW hlen2 hg2 hd2 ⊢
  have hF := fun (W : World) (G : Nat → Prop) (hW : RefAt W r D2 G) => rFlush_yes hW hg2 hd2 hlen2
  obtain ⟨t, et⟩ : ∃ t, t = Pg.secT p := ⟨_, rfl⟩
  rw [← et] at hE hW
  have H : Hid (RefAt w r D F) := h
  have HW : Hid _ := hW
  have HF : Hid _ := hF
  obtain ⟨ev, bits⟩ := p
  unfold pgV at hE ⊢
  clear h hb e3 et hW ht hF hlen hi eD hlen2 hg hd hg2 hd2
  go_enter Tryz.func15, Tryz.ntmps15
  go_wp2_with fail
  refine (hE _).mono ?_
  rintro e w1 ⟨rfl, hb1⟩
  have HB : Hid (Below w.heap.size w w1) := ((Below.refl w.heap.size w).alloc (Nat.le_refl _) _).trans (hb1.mono (by simp))
  have hw := HW.out w1 (H.out.below HB.out)
  clear hE hb1
  go_wp2_with fail
  refine hw.mono ?_
  rintro e w2 ⟨rfl, hd, ho⟩
  have HD : Hid (Only F w w2) := (Only.of_below HB.out F).then ho
  have hf := HF.out w2 _ hd
  clear hw hd ho
  go_wp2_with fail
  refine hf.mono ?_
  rintro e w3 ⟨rfl, hd, ho⟩
  have HE : Hid (RefAt w3 r (D2.settle fun _ c => c) (Plus F w.heap.size) ∧ Only F w w3) := ⟨hd.mono (fun _ hk => hk.imp id fun hx => Nat.le_trans HB.out.size hx), HD.out.trans (ho.mono (fun _ hk => hk.imp id fun hx => Nat.le_trans HB.out.size hx))⟩
  clear hf hd ho
  go_wp2
  go_ret
  exact ⟨rfl, HE.out⟩

/-- Save, on whatever such a drive -/
theorem rsave11_any {w : World} {r : Nat} {D : Dr} {F : Nat → Prop} (h : RefAt w r D F) (hg : D.goes = false) (p : Pge) (hev : p.ev < 18446744073709551616) (hi : 2 < D.safe.length) (hlen : ∀ i, (D.writes i).length < 1000000) :
    Calls Tryz.prog 15 #[.pointer (some ⟨r, 0, none⟩), pgV p] w fun e w' => e = .returned (.int .i64 (D.pgSaveE p : Nat)) ∧ RefAt w' r (D.pgSaveD p) (Plus F w.heap.size) ∧ Only F w w' := by
  unfold Dr.pgSaveE Dr.pgSaveD
  by_cases hb : p.bits.size = 8
  · rw [if_pos hb, if_pos hb]
    cases hd : D.dead with
    | true =>
      have hr : D.reachE 2 = 40 := by unfold Dr.reachE Dr.runsE; rw [hd]; rfl
      have ht : D.takeE 2 64 = 40 := by unfold Dr.takeE; rw [hr]; rfl
      rw [show D.keepE (Pg.secT p).data.toList = 40 by unfold Dr.keepE; rw [ht]; rfl, show D.keepD (Pg.secT p).data.toList = D by unfold Dr.keepD; rw [ht]; rfl]
      have hq := rsave11_no h hg p hev hb (by rw [hr]; decide)
      rw [hr] at hq
      exact hq
    | false =>
      have hv : D.Live D.safe.length := ⟨hd, hg, rfl⟩
      obtain ⟨e1, e2⟩ := hv.keep hi (Pg.secT p).data.toList
      rw [e1, e2]
      exact rsave11_yes h hg p hev hd hb (hv.reach hi) hi hlen
  · rw [if_neg hb, if_neg hb]; exact rsave11_arg h hg p hev hb

set_option maxRecDepth 100000 in
set_option maxHeartbeats 2000000 in
theorem rload11_no {w : World} {r : Nat} {D : Dr} {F : Nat → Prop} (h : RefAt w r D F) (hg : D.goes = false) (hr : D.readE 2 ≠ 0) :
    Calls Tryz.prog 26 #[.pointer (some ⟨r, 0, none⟩)] w fun e w' => e = .returned (.tuple #[pgV Pg.none, .int .i64 (D.readE 2 : Nat)]) ∧ Below w.heap.size w w' := by
  have hR := rRead_any (h.below ((Below.refl w.heap.size w).alloc (Nat.le_refl _) (.cells #[.int .u64 0, .string ⟨#[]⟩] 30))) hg 2
  obtain ⟨q, eq⟩ : ∃ q, q = D.readE 2 := ⟨_, rfl⟩
  obtain ⟨t, et⟩ : ∃ t, t = txt (D.readS 2) := ⟨_, rfl⟩
  rw [← eq] at hr hR ⊢
  rw [← et] at hR
  have hne : ((q : Int) != 0) = true := by simp only [bne_iff_ne, ne_eq]; omega
  clear eq et hr h hg
  go_enter Tryz.func26, Tryz.ntmps26
  go_wp2_with fail
  refine hR.mono ?_
  rintro e w1 ⟨rfl, rfl⟩
  clear hR
  go_wp2
  refine bodyPost_ret (ret_cell_tmp rfl _ _ ⟨w.heap.size, 0, none⟩ (pgV Pg.none) rfl (by go_simp; rfl)) rfl ?_
  exact ⟨rfl, (Below.refl _ w).alloc (Nat.le_refl _) _⟩

set_option maxRecDepth 100000 in
set_option maxHeartbeats 2000000 in
theorem rload11_yes {w : World} {r : Nat} {D : Dr} {F : Nat → Prop} (h : RefAt w r D F) (hg : D.goes = false) (hr : D.readE 2 = 0) :
    Calls Tryz.prog 26 #[.pointer (some ⟨r, 0, none⟩)] w fun e w' => e = .returned (.tuple #[pgV (Pg.decS (txt (D.readS 2))), .int .i64 (Pg.decE (txt (D.readS 2)) : Nat)]) ∧ Below w.heap.size w w' := by
  have hR := rRead_any (h.below ((Below.refl w.heap.size w).alloc (Nat.le_refl _) (.cells #[.int .u64 0, .string ⟨#[]⟩] 30))) hg 2
  rw [hr] at hR
  obtain ⟨t, et⟩ : ∃ t, t = txt (D.readS 2) := ⟨_, rfl⟩
  rw [← et] at hR ⊢
  have hD := fun W => rDecode11_any t W
  obtain ⟨x, ex⟩ : ∃ x, x = Pg.decS t := ⟨_, rfl⟩
  obtain ⟨g, eg⟩ : ∃ g, g = Pg.decE t := ⟨_, rfl⟩
  rw [← ex, ← eg] at hD ⊢
  obtain ⟨xe, xb⟩ := x
  unfold pgV at hD ⊢
  clear et ex eg hr h hg
  go_enter Tryz.func26, Tryz.ntmps26
  go_wp2_with fail
  refine hR.mono ?_
  rintro e w1 ⟨rfl, rfl⟩
  clear hR
  go_wp2_with fail
  refine (hD _).mono ?_
  rintro e w2 ⟨rfl, hb2⟩
  obtain ⟨d0, d1⟩ := pg_cells hb2
  have g0 := pg_free hb2 0
  have g1 := pg_free hb2 1
  have HB2 : Hid (Below w.heap.size w w2) := ((Below.refl _ w).alloc (Nat.le_refl _) _).trans (hb2.mono (by simp))
  clear hb2 hD
  go_wp2
  refine bodyPost_ret (ret_cell_tmp rfl _ _ ⟨w.heap.size, 0, none⟩ (.agg #[.int .u64 (xe : Int), .string xb]) rfl (by go_simp)) rfl ?_
  exact ⟨rfl, pg_stored HB2.out (Nat.le_refl _) HB2.out.size _ _⟩

/-- Load -/
theorem rload11_any {w : World} {r : Nat} {D : Dr} {F : Nat → Prop} (h : RefAt w r D F) (hg : D.goes = false) :
    Calls Tryz.prog 26 #[.pointer (some ⟨r, 0, none⟩)] w fun e w' => e = .returned (.tuple #[pgV D.pgS, .int .i64 (D.pgE : Nat)]) ∧ Below w.heap.size w w' := by
  unfold Dr.pgS Dr.pgE
  by_cases hr : D.readE 2 = 0
  · rw [if_pos hr, if_pos hr]; exact rload11_yes h hg hr
  · rw [if_neg hr, if_neg hr]; exact rload11_no h hg hr
end Go.Proofs.YtlcoibfpebggoaaGreatDoor

namespace Go.Proofs.YtlcoibfpebggoaaGreatDoor
open Go.RowKit

set_option maxRecDepth 100000 in
set_option maxHeartbeats 1000000 in
theorem rAll11_bad {w : World} (a : Option Addr) (n cap : Nat) (ev : Nat) (hev : ev < 18446744073709551616) (bits : ByteArray) (hb : bits.size ≠ 8) :
    Calls Tryz.prog 23 #[.slice a n cap, .agg #[.int .u64 (ev : Int), .string bits]] w fun e w' => e = .returned (.tuple #[.int .i64 0, .int .i64 1]) ∧ Below w.heap.size w w' := by
  have hE := fun W => rEncode11_any ⟨ev, bits⟩ hev W
  rw [show Pg.encT ⟨ev, bits⟩ = ⟨#[]⟩ from if_neg hb, show Pg.encE ⟨ev, bits⟩ = 1 from if_neg hb] at hE
  unfold pgV at hE
  clear hb
  go_enter Tryz.func23, Tryz.ntmps23
  go_wp2_with fail
  refine (hE _).mono ?_
  rintro e w1 ⟨rfl, hb1⟩
  have HB : Hid (Below w.heap.size w w1) := ((Below.refl w.heap.size w).alloc (Nat.le_refl _) _).trans (hb1.mono (by simp))
  clear hE hb1
  go_wp2
  go_ret2
  exact ⟨rfl, HB.out⟩

/-- a place of a row, among many things -/
theorem many_row {w : World} {B m : Nat} {T : Nat → Thing} (h : Many w B m T) {ri : Nat} (hri : ri < m) {t : TypeId} {g N cap j : Nat} {L : List Value} {u : Value} (e : T ri = rowT t (.slice (some ⟨g, 0, none⟩) N cap) L) (hj : L[j]? = some u) : w.cell? ⟨g, j, none⟩ = some u := by
  obtain ⟨F, hF, _⟩ := h.look hri
  rw [e] at hF
  obtain ⟨g2, cp, hv, hc⟩ := rowT_at hF hj
  injection hv with hv1 _ _
  injection hv1 with hv2
  injection hv2 with hv3
  rw [hv3]; exact hc
theorem many_blk {w : World} {B m : Nat} {T : Nat → Thing} (h : Many w B m T) {bi : Nat} (hbi : bi < m) {b : Nat} {t : TypeId} {cs : Array Value} (e : T bi = blkT b t cs) (j : Nat) : w.cell? ⟨b, j, none⟩ = cs[j]? := by
  obtain ⟨F, hF, _⟩ := h.look hbi
  rw [e] at hF
  exact blk_cell hF j

/-- the things behind j places: the row, the drives, the page that All was given -/
def allT (T : Nat → Thing) (o n m : Nat) (rp : Nat → Nat) (D : Nat → Dr) (b : Nat) (cs : Array Value) : Nat → Thing := swap1 (spread T o n (fun i => refT (rp i) (D i))) m (blkT b 30 cs)

set_option maxRecDepth 100000 in
set_option maxHeartbeats 2000000 in
theorem rAll11_good {w : World} {B m : Nat} {T : Nat → Thing} (h : Many w B m T) (ri : Nat) (o n : Nat) (hon : o + n ≤ m) (hro : ri < o) (a : Option Addr) (cap : Nat) (L : List Value) (hrow : T ri = rowT 41 (.slice a L.length cap) L)
    (rp : Nat → Nat) (R : Nat → Dr) (hT : ∀ i, i < n → T (o + i) = refT (rp i) (R i)) (q : Who) (hq : Listed L q n rp) (hR : ∀ i, i < n → (R i).Fit11) (hl : L.length ≤ 1000)
    (ev : Nat) (hev : ev < 18446744073709551616) (bits : ByteArray) (hb : bits.size = 8) :
    Calls Tryz.prog 23 #[.slice a L.length cap, .agg #[.int .u64 (ev : Int), .string bits]] w fun e w' =>
      e = .returned (.tuple #[.int .i64 (Pg.allN q R ⟨ev, bits⟩ L.length : Nat), .int .i64 (Pg.allE (Pg.allN q R ⟨ev, bits⟩ L.length) : Nat)]) ∧ Many w' B m (spread T o n (fun i => refT (rp i) (Pg.allD q R ⟨ev, bits⟩ L.length i))) ∧ Only (fun k => B ≤ k ∧ k < w.heap.size) w w' := by
  have hE := fun W => rEncode11_any ⟨ev, bits⟩ hev W
  rw [show Pg.encT ⟨ev, bits⟩ = Pg.secT ⟨ev, bits⟩ from if_pos hb, show Pg.encE ⟨ev, bits⟩ = 0 from if_pos hb] at hE
  unfold pgV at hE
  obtain ⟨s, hs⟩ : ∃ s, s = Pg.secT ⟨ev, bits⟩ := ⟨_, rfl⟩
  rw [← hs] at hE
  obtain ⟨N, hN⟩ : ∃ N, N = L.length := ⟨_, rfl⟩
  have HL : Hid (N = L.length) := hN
  rw [← hN] at hl ⊢
  have HM : Hid (Many w B m T) := h
  have HQ : Hid (Listed L q n rp) := hq
  have HR : Hid (∀ i, i < n → (R i).Fit11) := hR
  have HT : Hid (∀ i, i < n → T (o + i) = refT (rp i) (R i)) := hT
  have HRow : Hid (T ri = rowT 41 (.slice a N cap) L) := by rw [hN]; exact hrow
  have HV : Hid (ev < 18446744073709551616) := hev
  have HO : Hid (o + n ≤ m ∧ ri < o) := ⟨hon, hro⟩
  have hmx : Tryz.prog.follows .mixedOrders = true := by kernel_rfl
  have HMX : Hid (Tryz.prog.follows .mixedOrders = true) := hmx
  clear hs hN h hq hR hT hrow hev hb hon hro hmx
  go_enter Tryz.func23, Tryz.ntmps23
  go_wp2_with fail
  refine (hE _).mono ?_
  rintro e w1 ⟨rfl, hb1⟩
  have hB1 : Below w.heap.size w w1 := ((Below.refl w.heap.size w).alloc (Nat.le_refl _) _).trans (hb1.mono (by simp))
  obtain ⟨cs, hcs⟩ : ∃ cs : Array Value, cs = #[.int .u64 (ev : Int), .string bits] := ⟨_, rfl⟩
  have hblk : (blkT w.heap.size 30 cs).is w1 (fun k => w.heap.size ≤ k) := by
    rw [hcs]; exact (blkT w.heap.size _ _).below (blk_new w _ _) hb1
  have HA : Hid (Many w1 B (m + 1) (allT T o n m rp R w.heap.size cs)) :=
    (HM.out.add hB1 hblk (fun k hk => hk)).congr fun k _ => by
      unfold allT
      by_cases e : k = m
      · subst e; rw [swap1_same, swap1_same]
      · rw [swap1_other _ _ e, swap1_other _ _ e, spread_same HT.out]
  have HB1 : Hid (Below w.heap.size w w1) := hB1
  have HCS : Hid (cs = #[.int .u64 (ev : Int), .string bits]) := hcs
  clear hblk hB1 hb1 hE hcs
  go_wp2
  go_loopg [8, 9] N (fun g c i wr => ∃ j : Nat, j ≤ N ∧ g = N - j ∧ c = .int .i64 (Pg.allN q R ⟨ev, bits⟩ j : Nat) ∧ i = .int .i64 (j : Int) ∧ Many wr B (m + 1) (allT T o n m rp (Pg.allD q R ⟨ev, bits⟩ j) w.heap.size cs) ∧ Only (fun k => B ≤ k ∧ k < w.heap.size) w wr)
  case atStart => exact ⟨0, Nat.zero_le _, rfl, rfl, rfl, HA.out, Only.of_below HB1.out _⟩
  case round =>
    obtain ⟨j, hj, rfl, rfl, rfl, hm, ho⟩ := hrel
    have HMr : Hid (Many wr B (m + 1) (allT T o n m rp (Pg.allD q R ⟨ev, bits⟩ j) w.heap.size cs)) := hm
    have HOn : Hid (Only (fun k => B ≤ k ∧ k < w.heap.size) w wr) := ho
    clear hm ho
    by_cases hlt : j < N
    · obtain ⟨F, hF, _⟩ := HMr.out.look (i := ri) (by have := HO.out; omega)
      have hrw : (rowT 41 (.slice a N cap) L).is wr F := by
        have h2 := hF
        unfold allT at h2
        rw [swap1_other _ _ (by have := HO.out; omega), spread_out _ _ _ _ (.inl HO.out.2), HRow.out] at h2
        exact h2
      obtain ⟨F2, hF2, _⟩ := HMr.out.look (i := m) (by omega)
      have hbk : (blkT w.heap.size 30 cs).is wr F2 := by
        have h2 := hF2
        unfold allT at h2
        rw [swap1_same] at h2
        exact h2
      have c0 := blk_cell hbk 0
      have c1 := blk_cell hbk 1
      rw [HCS.out] at c0 c1
      replace c0 : wr.cell? ⟨w.heap.size, 0, none⟩ = some (.int .u64 (ev : Int)) := c0
      replace c1 : wr.cell? ⟨w.heap.size, 1, none⟩ = some (.string bits) := c1
      rcases HQ.out j (by rw [← HL.out]; exact hlt) with ⟨hq, hLj⟩ | ⟨i, hi, hq, hLj⟩
      · obtain ⟨g, cp, hv, hcell⟩ := rowT_at hrw hLj
        injection hv with hv1 hv2 hv3
        clear hv2 hv3
        subst hv1
        have HQj : Hid (q j = .none) := hq
        clear hq hLj hrw hbk hF hF2
        go_wp2
        go_quiet (fail)
        go_wp2
        go_roundg (N - (j + 1))
        case measure => omega
        case rel =>
          refine ⟨j + 1, by omega, rfl, ?_, by go_num, ?_, HOn.out.then (Only.of_below (below_drewN (Below.refl _ _) _) _)⟩
          · rw [Pg.allN_none HQj.out]
          · rw [Pg.allD_none HQj.out]; exact HMr.out.below (below_drewN (Below.refl _ _) _)
      · obtain ⟨g, cp, hv, hcell⟩ := rowT_at hrw hLj
        injection hv with hv1 hv2 hv3
        clear hv2 hv3
        subst hv1
        have HQj : Hid (q j = some i) := hq
        have HI : Hid (i < n) := hi
        have HLj : Hid (L[j]? = some (.pointer (some ⟨rp i, 0, none⟩))) := hLj
        obtain ⟨x, hx⟩ : ∃ x, x = (Pg.allD q R ⟨ev, bits⟩ j i).pgSaveE ⟨ev, bits⟩ := ⟨_, rfl⟩
        have HX : Hid (x = (Pg.allD q R ⟨ev, bits⟩ j i).pgSaveE ⟨ev, bits⟩) := hx
        have hfit := Dr.Fit11.all (q := q) HR.out ⟨ev, bits⟩ j i hi
        have HC : Hid (∀ W, Below wr.heap.size wr W → Calls Tryz.prog 15 #[.pointer (some ⟨rp i, 0, none⟩), .agg #[.int .u64 (ev : Int), .string bits]] W fun e w' => e = .returned (.int .i64 (x : Int)) ∧ Many w' B (m + 1) (swap1 (allT T o n m rp (Pg.allD q R ⟨ev, bits⟩ j) w.heap.size cs) (o + i) (refT (rp i) ((Pg.allD q R ⟨ev, bits⟩ j i).pgSaveD ⟨ev, bits⟩))) ∧ Only (fun k => B ≤ k ∧ k < W.heap.size) W w') := by
          intro W hW
          rw [hx]
          refine (HMr.out.below hW).call (i := o + i) (by have := HO.out; omega) (refT (rp i) ((Pg.allD q R ⟨ev, bits⟩ j i).pgSaveD ⟨ev, bits⟩)) (fun F3 hF3 _ => ?_)
          have hd : RefAt W (rp i) (Pg.allD q R ⟨ev, bits⟩ j i) F3 := by
            have h2 := hF3
            unfold allT at h2
            rw [swap1_other _ _ (by have := HO.out; omega), spread_in _ _ _ _ hi] at h2
            exact h2
          exact rsave11_any hd hfit.goes ⟨ev, bits⟩ HV.out hfit.len hfit.lens
        clear hq hi hLj hrw hbk hF hF2 hx hfit
        by_cases hx0 : x = 0
        · have hz : ((x : Int) == 0) = true := by rw [beq_iff_eq]; omega
          go_wp2_with fail
          refine wp_region_held (S := fun W => W.cell? ⟨g, j, none⟩ = some (.pointer (some ⟨rp i, 0, none⟩)) ∧ W.cell? ⟨w.heap.size, 0, none⟩ = some (.int .u64 (ev : Int)) ∧ W.cell? ⟨w.heap.size, 1, none⟩ = some (.string bits)) HMX.out ?_
          have hS : (fun W : World => W.cell? ⟨g, j, none⟩ = some (.pointer (some ⟨rp i, 0, none⟩)) ∧ W.cell? ⟨w.heap.size, 0, none⟩ = some (.int .u64 (ev : Int)) ∧ W.cell? ⟨w.heap.size, 1, none⟩ = some (.string bits)) wr.drew := ⟨hcell, c0, c1⟩
          change wpAnyH _ _ _ _ _ _ _ _ wr.drew
          refine held_quiet 0 (v := ?v0q1) rfl (by kernel_rfl) (fun _ _ _ h => h) (by assumption) rfl ?hy0q1 ?rest0q1
          case hy0q1 => (intro wS hSw; (try dsimp only at hSw); go_simp; try with_reducible rfl)
          try simp only [Act.put, List.setIfInBounds_toArray, List.set_cons_zero, List.set_cons_succ]
          refine held_quiet 1 (v := ?v1q2) rfl (by kernel_rfl) (fun _ _ _ h => h) (by assumption) rfl ?hy1q2 ?rest1q2
          case hy1q2 => (intro wS hSw; (try dsimp only at hSw); go_simp; try with_reducible rfl)
          try simp only [Act.put, List.setIfInBounds_toArray, List.set_cons_zero, List.set_cons_succ]
          refine held_quiet 2 (v := ?v2q3) rfl (by kernel_rfl) (fun _ _ _ h => h) (by assumption) rfl ?hy2q3 ?rest2q3
          case hy2q3 => (intro wS hSw; (try dsimp only at hSw); go_simp; try with_reducible rfl)
          try simp only [Act.put, List.setIfInBounds_toArray, List.set_cons_zero, List.set_cons_succ]
          refine held_quiet 3 (v := ?v3q4) rfl (by kernel_rfl) (fun _ _ _ h => h) (by assumption) rfl ?hy3q4 ?rest3q4
          case hy3q4 => (intro wS hSw; (try dsimp only at hSw); go_simp; try with_reducible rfl)
          try simp only [Act.put, List.setIfInBounds_toArray, List.set_cons_zero, List.set_cons_succ]
          refine held_quiet 4 (v := ?v4q5) rfl (by kernel_rfl) (fun _ _ _ h => h) (by assumption) rfl ?hy4q5 ?rest4q5
          case hy4q5 => (intro wS hSw; (try dsimp only at hSw); go_simp; try with_reducible rfl)
          try simp only [Act.put, List.setIfInBounds_toArray, List.set_cons_zero, List.set_cons_succ]
          refine held_quiet 5 (v := ?v5q6) rfl (by kernel_rfl) (fun _ _ _ h => h) (by assumption) rfl ?hy5q6 ?rest5q6
          case hy5q6 => (intro wS hSw; (try dsimp only at hSw); go_simp; try with_reducible rfl)
          try simp only [Act.put, List.setIfInBounds_toArray, List.set_cons_zero, List.set_cons_succ]
          refine held_quiet 6 (v := ?v6q7) rfl (by kernel_rfl) (fun _ _ _ h => h) (by assumption) rfl ?hy6q7 ?rest6q7
          case hy6q7 => (intro wS hSw; (try dsimp only at hSw); go_simp; try with_reducible rfl)
          try simp only [Act.put, List.setIfInBounds_toArray, List.set_cons_zero, List.set_cons_succ]
          refine held_quiet 7 (v := ?v7q8) rfl (by kernel_rfl) (fun _ _ _ h => h) (by assumption) rfl ?hy7q8 ?rest7q8
          case hy7q8 => (intro wS hSw; (try dsimp only at hSw); go_simp; try with_reducible rfl)
          try simp only [Act.put, List.setIfInBounds_toArray, List.set_cons_zero, List.set_cons_succ]
          refine held_quiet 8 (v := ?v8q9) rfl (by kernel_rfl) (fun _ _ _ h => h) (by assumption) rfl ?hy8q9 ?rest8q9
          case hy8q9 => (intro wS hSw; (try dsimp only at hSw); go_simp; try with_reducible rfl)
          try simp only [Act.put, List.setIfInBounds_toArray, List.set_cons_zero, List.set_cons_succ]
          refine held_quiet 9 (v := ?v9q10) rfl (by kernel_rfl) (fun _ _ _ h => h) (by assumption) rfl ?hy9q10 ?rest9q10
          case hy9q10 => (intro wS hSw; (try dsimp only at hSw); go_simp; try with_reducible rfl)
          try simp only [Act.put, List.setIfInBounds_toArray, List.set_cons_zero, List.set_cons_succ]
          refine held_quiet 10 (v := ?v10q11) rfl (by kernel_rfl) (fun _ _ _ h => h) (by assumption) rfl ?hy10q11 ?rest10q11
          case hy10q11 => (intro wS hSw; (try dsimp only at hSw); go_simp; try with_reducible rfl)
          try simp only [Act.put, List.setIfInBounds_toArray, List.set_cons_zero, List.set_cons_succ]
          refine held_one 11 rfl (by kernel_rfl) ?_
          go_wp2_with (go_at_call 15; refine (HC.out _ (Below.refl _ _).drew).mono ?_; rintro e w2 ⟨rfl, hm2, ho2⟩)
          have d := many_row hm2 (ri := ri) (by have := HO.out; omega) (by unfold allT; rw [swap1_other _ _ (by have := HO.out; omega), swap1_other _ _ (by have := HO.out; omega), spread_out _ _ _ _ (.inl HO.out.2)]; exact HRow.out) HLj.out
          have d0 := many_blk hm2 (bi := m) (by omega) (by unfold allT; rw [swap1_other _ _ (by have := HO.out; have := HI.out; omega), swap1_same]) 0
          have d1 := many_blk hm2 (bi := m) (by omega) (by unfold allT; rw [swap1_other _ _ (by have := HO.out; have := HI.out; omega), swap1_same]) 1
          rw [HCS.out] at d0 d1
          have hS2 : w2.cell? ⟨g, j, none⟩ = some (.pointer (some ⟨rp i, 0, none⟩)) ∧ w2.cell? ⟨w.heap.size, 0, none⟩ = some (.int .u64 (ev : Int)) ∧ w2.cell? ⟨w.heap.size, 1, none⟩ = some (.string bits) := ⟨d, d0, d1⟩
          try refine ⟨hS2, ?_⟩
          have HM2 : Hid (Many w2 B (m + 1) _) := hm2
          have hle := Pg.allN_le q R ⟨ev, bits⟩ j
          have HO2 : Hid (Only (fun k => B ≤ k ∧ k < wr.drew.heap.size) wr.drew w2) := ho2
          clear hm2 ho2 d d0 d1
          refine held_quiet 12 (v := ?v12q12) rfl (by kernel_rfl) (fun _ _ _ h => h) (by assumption) rfl ?hy12q12 ?rest12q12
          case hy12q12 => (intro wS hSw; (try dsimp only at hSw); go_simp; try with_reducible rfl)
          try simp only [Act.put, List.setIfInBounds_toArray, List.set_cons_zero, List.set_cons_succ]
          refine held_quiet 13 (v := ?v13q13) rfl (by kernel_rfl) (fun _ _ _ h => h) (by assumption) rfl ?hy13q13 ?rest13q13
          case hy13q13 => (intro wS hSw; (try dsimp only at hSw); go_simp; try with_reducible rfl)
          try simp only [Act.put, List.setIfInBounds_toArray, List.set_cons_zero, List.set_cons_succ]
          refine held_done (by kernel_rfl) ?_
          go_wp2
          go_roundg (N - (j + 1))
          case measure => omega
          case rel =>
            refine ⟨j + 1, by omega, rfl, ?_, by go_num, ?_, HOn.out.trans (((Only.drew _ _).then HO2.out).mono (fun k hk => ?_))⟩
            · rw [Pg.allN_yes HQj.out (by rw [← HX.out]; exact hx0)]; go_num
            · refine Many.congr HM2.out fun k hk => ?_
              unfold allT
              by_cases e : k = m
              · subst e; rw [swap1_same, swap1_other _ _ (by have := HO.out; have := HI.out; omega), swap1_same]
              · rw [swap1_other _ _ e]
                by_cases e2 : k = o + i
                · subst e2; rw [swap1_same, spread_in _ _ _ _ HI.out, Pg.allD_some HQj.out, swap1_same]
                · rw [swap1_other _ _ e2, swap1_other _ _ e]
                  unfold spread
                  split
                  · rw [Pg.allD_some HQj.out]; dsimp only; rw [swap1_other _ _ (by omega)]
                  · rfl
            · by_cases e : k < w.heap.size
              · exact .inl ⟨hk.1, e⟩
              · exact .inr (by omega)
        · have hz : ((x : Int) == 0) = false := by rw [beq_eq_false_iff_ne]; omega
          go_wp2_with fail
          refine wp_region_held (S := fun W => W.cell? ⟨g, j, none⟩ = some (.pointer (some ⟨rp i, 0, none⟩)) ∧ W.cell? ⟨w.heap.size, 0, none⟩ = some (.int .u64 (ev : Int)) ∧ W.cell? ⟨w.heap.size, 1, none⟩ = some (.string bits)) HMX.out ?_
          have hS : (fun W : World => W.cell? ⟨g, j, none⟩ = some (.pointer (some ⟨rp i, 0, none⟩)) ∧ W.cell? ⟨w.heap.size, 0, none⟩ = some (.int .u64 (ev : Int)) ∧ W.cell? ⟨w.heap.size, 1, none⟩ = some (.string bits)) wr.drew := ⟨hcell, c0, c1⟩
          change wpAnyH _ _ _ _ _ _ _ _ wr.drew
          refine held_quiet 0 (v := ?v0q14) rfl (by kernel_rfl) (fun _ _ _ h => h) (by assumption) rfl ?hy0q14 ?rest0q14
          case hy0q14 => (intro wS hSw; (try dsimp only at hSw); go_simp; try with_reducible rfl)
          try simp only [Act.put, List.setIfInBounds_toArray, List.set_cons_zero, List.set_cons_succ]
          refine held_quiet 1 (v := ?v1q15) rfl (by kernel_rfl) (fun _ _ _ h => h) (by assumption) rfl ?hy1q15 ?rest1q15
          case hy1q15 => (intro wS hSw; (try dsimp only at hSw); go_simp; try with_reducible rfl)
          try simp only [Act.put, List.setIfInBounds_toArray, List.set_cons_zero, List.set_cons_succ]
          refine held_quiet 2 (v := ?v2q16) rfl (by kernel_rfl) (fun _ _ _ h => h) (by assumption) rfl ?hy2q16 ?rest2q16
          case hy2q16 => (intro wS hSw; (try dsimp only at hSw); go_simp; try with_reducible rfl)
          try simp only [Act.put, List.setIfInBounds_toArray, List.set_cons_zero, List.set_cons_succ]
          refine held_quiet 3 (v := ?v3q17) rfl (by kernel_rfl) (fun _ _ _ h => h) (by assumption) rfl ?hy3q17 ?rest3q17
          case hy3q17 => (intro wS hSw; (try dsimp only at hSw); go_simp; try with_reducible rfl)
          try simp only [Act.put, List.setIfInBounds_toArray, List.set_cons_zero, List.set_cons_succ]
          refine held_quiet 4 (v := ?v4q18) rfl (by kernel_rfl) (fun _ _ _ h => h) (by assumption) rfl ?hy4q18 ?rest4q18
          case hy4q18 => (intro wS hSw; (try dsimp only at hSw); go_simp; try with_reducible rfl)
          try simp only [Act.put, List.setIfInBounds_toArray, List.set_cons_zero, List.set_cons_succ]
          refine held_quiet 5 (v := ?v5q19) rfl (by kernel_rfl) (fun _ _ _ h => h) (by assumption) rfl ?hy5q19 ?rest5q19
          case hy5q19 => (intro wS hSw; (try dsimp only at hSw); go_simp; try with_reducible rfl)
          try simp only [Act.put, List.setIfInBounds_toArray, List.set_cons_zero, List.set_cons_succ]
          refine held_quiet 6 (v := ?v6q20) rfl (by kernel_rfl) (fun _ _ _ h => h) (by assumption) rfl ?hy6q20 ?rest6q20
          case hy6q20 => (intro wS hSw; (try dsimp only at hSw); go_simp; try with_reducible rfl)
          try simp only [Act.put, List.setIfInBounds_toArray, List.set_cons_zero, List.set_cons_succ]
          refine held_quiet 7 (v := ?v7q21) rfl (by kernel_rfl) (fun _ _ _ h => h) (by assumption) rfl ?hy7q21 ?rest7q21
          case hy7q21 => (intro wS hSw; (try dsimp only at hSw); go_simp; try with_reducible rfl)
          try simp only [Act.put, List.setIfInBounds_toArray, List.set_cons_zero, List.set_cons_succ]
          refine held_quiet 8 (v := ?v8q22) rfl (by kernel_rfl) (fun _ _ _ h => h) (by assumption) rfl ?hy8q22 ?rest8q22
          case hy8q22 => (intro wS hSw; (try dsimp only at hSw); go_simp; try with_reducible rfl)
          try simp only [Act.put, List.setIfInBounds_toArray, List.set_cons_zero, List.set_cons_succ]
          refine held_quiet 9 (v := ?v9q23) rfl (by kernel_rfl) (fun _ _ _ h => h) (by assumption) rfl ?hy9q23 ?rest9q23
          case hy9q23 => (intro wS hSw; (try dsimp only at hSw); go_simp; try with_reducible rfl)
          try simp only [Act.put, List.setIfInBounds_toArray, List.set_cons_zero, List.set_cons_succ]
          refine held_quiet 10 (v := ?v10q24) rfl (by kernel_rfl) (fun _ _ _ h => h) (by assumption) rfl ?hy10q24 ?rest10q24
          case hy10q24 => (intro wS hSw; (try dsimp only at hSw); go_simp; try with_reducible rfl)
          try simp only [Act.put, List.setIfInBounds_toArray, List.set_cons_zero, List.set_cons_succ]
          refine held_one 11 rfl (by kernel_rfl) ?_
          go_wp2_with (go_at_call 15; refine (HC.out _ (Below.refl _ _).drew).mono ?_; rintro e w2 ⟨rfl, hm2, ho2⟩)
          have d := many_row hm2 (ri := ri) (by have := HO.out; omega) (by unfold allT; rw [swap1_other _ _ (by have := HO.out; omega), swap1_other _ _ (by have := HO.out; omega), spread_out _ _ _ _ (.inl HO.out.2)]; exact HRow.out) HLj.out
          have d0 := many_blk hm2 (bi := m) (by omega) (by unfold allT; rw [swap1_other _ _ (by have := HO.out; have := HI.out; omega), swap1_same]) 0
          have d1 := many_blk hm2 (bi := m) (by omega) (by unfold allT; rw [swap1_other _ _ (by have := HO.out; have := HI.out; omega), swap1_same]) 1
          rw [HCS.out] at d0 d1
          have hS2 : w2.cell? ⟨g, j, none⟩ = some (.pointer (some ⟨rp i, 0, none⟩)) ∧ w2.cell? ⟨w.heap.size, 0, none⟩ = some (.int .u64 (ev : Int)) ∧ w2.cell? ⟨w.heap.size, 1, none⟩ = some (.string bits) := ⟨d, d0, d1⟩
          try refine ⟨hS2, ?_⟩
          have HM2 : Hid (Many w2 B (m + 1) _) := hm2
          have hle := Pg.allN_le q R ⟨ev, bits⟩ j
          have HO2 : Hid (Only (fun k => B ≤ k ∧ k < wr.drew.heap.size) wr.drew w2) := ho2
          clear hm2 ho2 d d0 d1
          refine held_quiet 12 (v := ?v12q25) rfl (by kernel_rfl) (fun _ _ _ h => h) (by assumption) rfl ?hy12q25 ?rest12q25
          case hy12q25 => (intro wS hSw; (try dsimp only at hSw); go_simp; try with_reducible rfl)
          try simp only [Act.put, List.setIfInBounds_toArray, List.set_cons_zero, List.set_cons_succ]
          refine held_quiet 13 (v := ?v13q26) rfl (by kernel_rfl) (fun _ _ _ h => h) (by assumption) rfl ?hy13q26 ?rest13q26
          case hy13q26 => (intro wS hSw; (try dsimp only at hSw); go_simp; try with_reducible rfl)
          try simp only [Act.put, List.setIfInBounds_toArray, List.set_cons_zero, List.set_cons_succ]
          refine held_done (by kernel_rfl) ?_
          go_wp2
          go_roundg (N - (j + 1))
          case measure => omega
          case rel =>
            refine ⟨j + 1, by omega, rfl, ?_, by go_num, ?_, HOn.out.trans (((Only.drew _ _).then HO2.out).mono (fun k hk => ?_))⟩
            · rw [Pg.allN_no HQj.out (by rw [← HX.out]; exact hx0)]
            · refine Many.congr HM2.out fun k hk => ?_
              unfold allT
              by_cases e : k = m
              · subst e; rw [swap1_same, swap1_other _ _ (by have := HO.out; have := HI.out; omega), swap1_same]
              · rw [swap1_other _ _ e]
                by_cases e2 : k = o + i
                · subst e2; rw [swap1_same, spread_in _ _ _ _ HI.out, Pg.allD_some HQj.out, swap1_same]
                · rw [swap1_other _ _ e2, swap1_other _ _ e]
                  unfold spread
                  split
                  · rw [Pg.allD_some HQj.out]; dsimp only; rw [swap1_other _ _ (by omega)]
                  · rfl
            · by_cases e : k < w.heap.size
              · exact .inl ⟨hk.1, e⟩
              · exact .inr (by omega)
    · have hjN : j = N := by omega
      subst hjN
      have hfin : Many wr B m (spread T o n (fun i => refT (rp i) (Pg.allD q R ⟨ev, bits⟩ j i))) := Many.congr (HMr.out.less (Nat.le_succ m)) fun k hk => by
        unfold allT; rw [swap1_other _ _ (by omega)]
      have HF : Hid (Many wr B m (spread T o n (fun i => refT (rp i) (Pg.allD q R ⟨ev, bits⟩ j i)))) := hfin
      obtain ⟨c, hc⟩ : ∃ c, c = Pg.allN q R ⟨ev, bits⟩ j := ⟨_, rfl⟩
      rw [← hc]
      have HCc : Hid (c = Pg.allN q R ⟨ev, bits⟩ j) := hc
      clear hfin hc hlt
      by_cases h0 : c = 0
      · have hz : ((c : Int) == 0) = true := by rw [beq_iff_eq]; omega
        have E : Hid (Pg.allE (Pg.allN q R ⟨ev, bits⟩ j) = 60 ∧ Pg.allN q R ⟨ev, bits⟩ j = 0) := by show _ ∧ _; rw [← HCc.out, h0]; exact ⟨rfl, rfl⟩
        clear h0
        go_wp2
        go_ret2
        exact ⟨by rw [E.out.1, E.out.2]; rfl, HF.out, HOn.out⟩
      · have hz : ((c : Int) == 0) = false := by rw [beq_eq_false_iff_ne]; omega
        have E : Hid (Pg.allE (Pg.allN q R ⟨ev, bits⟩ j) = 0) := by show _ = _; rw [← HCc.out]; exact if_neg h0
        clear h0
        go_wp2
        go_ret2
        exact ⟨by rw [E.out, ← HCc.out]; rfl, HF.out, HOn.out⟩
/-- All of the document's own, of any page -/
theorem rAll11_any {w : World} {B m : Nat} {T : Nat → Thing} (h : Many w B m T) (ri : Nat) (o n : Nat) (hon : o + n ≤ m) (hro : ri < o) (a : Option Addr) (cap : Nat) (L : List Value) (hrow : T ri = rowT 41 (.slice a L.length cap) L)
    (rp : Nat → Nat) (R : Nat → Dr) (hT : ∀ i, i < n → T (o + i) = refT (rp i) (R i)) (q : Who) (hq : Listed L q n rp) (hR : ∀ i, i < n → (R i).Fit11) (hl : L.length ≤ 1000) (p : Pge) (hev : p.ev < 18446744073709551616) :
    Calls Tryz.prog 23 #[.slice a L.length cap, pgV p] w fun e w' =>
      e = .returned (.tuple #[.int .i64 ((Pg.allA p (Pg.allN q R p L.length)).1 : Nat), .int .i64 ((Pg.allA p (Pg.allN q R p L.length)).2 : Nat)]) ∧ Many w' B m (spread T o n (fun i => refT (rp i) (Pg.allD q R p L.length i))) ∧ Only (fun k => B ≤ k ∧ k < w.heap.size) w w' := by
  by_cases hb : p.bits.size = 8
  · rw [show Pg.allA p (Pg.allN q R p L.length) = (Pg.allN q R p L.length, Pg.allE (Pg.allN q R p L.length)) from if_pos hb]
    exact rAll11_good h ri o n hon hro a cap L hrow rp R hT q hq hR hl p.ev hev p.bits hb
  · rw [show Pg.allA p (Pg.allN q R p L.length) = (0, 1) from if_neg hb]
    refine (rAll11_bad a L.length cap p.ev hev p.bits hb).mono ?_
    rintro e w' ⟨rfl, hbl⟩
    exact ⟨rfl, (h.below hbl).congr fun k _ => (spread_same (fun i hi => by rw [hT i hi, Pg.allD_bad hb]) k).symm, Only.of_below hbl _⟩
end Go.Proofs.YtlcoibfpebggoaaGreatDoor

namespace Go.Proofs.YtlcoibfpebggoaaGreatDoor
namespace Pg
/-- the first k bytes are joined -/
def orK (a b : List UInt8) (k : Nat) : List UInt8 := (orL a b).take k ++ a.drop k
theorem orK_zero (a b : List UInt8) : orK a b 0 = a := by simp [orK]
theorem orK_all {a b : List UInt8} (ha : a.length = 8) (hb : b.length = 8) : orK a b 8 = orL a b := by
  unfold orK
  rw [List.take_of_length_le (by rw [orL_length ha hb]; exact Nat.le_refl _), List.drop_of_length_le (by omega), List.append_nil]
theorem orK_length {a b : List UInt8} (ha : a.length = 8) (hb : b.length = 8) {k : Nat} (hk : k ≤ 8) : (orK a b k).length = 8 := by
  unfold orK
  rw [List.length_append, List.length_take, List.length_drop, orL_length ha hb, ha]; omega
theorem orK_at {a b : List UInt8} (ha : a.length = 8) (hb : b.length = 8) {k : Nat} (hk : k < 8) : (orK a b k).getD k 0 = a.getD k 0 := by
  unfold orK
  have hl : ((orL a b).take k).length = k := by rw [List.length_take, orL_length ha hb]; omega
  rw [List.getD_eq_getElem?_getD, List.getElem?_append_right (by omega), hl, Nat.sub_self, List.getElem?_drop, Nat.add_zero, List.getD_eq_getElem?_getD]
theorem orK_next {a b : List UInt8} (ha : a.length = 8) (hb : b.length = 8) {k : Nat} (hk : k < 8) : (orK a b k).set k (a.getD k 0 ||| b.getD k 0) = orK a b (k + 1) := by
  unfold orK
  have hl : ((orL a b).take k).length = k := by rw [List.length_take, orL_length ha hb]; omega
  have hx : (orL a b)[k]'(by rw [orL_length ha hb]; exact hk) = a.getD k 0 ||| b.getD k 0 := by
    unfold orL
    rw [List.getElem_zipWith, List.getD_eq_getElem?_getD, List.getD_eq_getElem?_getD, List.getElem?_eq_getElem (by omega), List.getElem?_eq_getElem (by omega)]
    rfl
  rw [List.set_append_right _ _ (by omega), hl, Nat.sub_self, List.drop_eq_getElem_cons (by omega : k < a.length), List.set_cons_zero, ← hx, List.take_succ_eq_append_getElem (by rw [orL_length ha hb]; exact hk), List.append_assoc]
  rfl
theorem or_u8 (x y : UInt8) : (x ||| y).toNat = x.toNat ||| y.toNat := UInt8.toNat_or x y
theorem ofInt_u8 (x : UInt8) : (BitVec.ofInt 8 (x.toNat : Int)).toNat = x.toNat := by
  have := x.toNat_lt
  rw [BitVec.toNat_ofInt]; omega
theorem u8_or (x y : UInt8) : Go.bits .or .u8 (x.toNat : Int) (y.toNat : Int) = (((x ||| y).toNat : Nat) : Int) := by
  have e : (BitVec.ofInt 8 (x.toNat : Int) ||| BitVec.ofInt 8 (y.toNat : Int)).toNat = (x ||| y).toNat := by rw [BitVec.toNat_or, ofInt_u8, ofInt_u8, or_u8]
  have h := (x ||| y).toNat_lt
  show IntKind.u8.wrap ((BitVec.ofInt 8 (x.toNat : Int) ||| BitVec.ofInt 8 (y.toNat : Int)).toNat : Int) = _
  rw [e, IntKind.wrap_u8]
  omega
end Pg
end Go.Proofs.YtlcoibfpebggoaaGreatDoor

namespace Go.Proofs.YtlcoibfpebggoaaGreatDoor
open Go.RowKit

set_option maxRecDepth 100000 in
set_option maxHeartbeats 4000000 in
theorem rJoin11_any {w : World} {B m : Nat} {T : Nat → Thing} (h : Many w B m T) (ri : Nat) (o n : Nat) (hon : o + n ≤ m) (hro : ri < o) (a : Option Addr) (cap : Nat) (L : List Value) (hrow : T ri = rowT 41 (.slice a L.length cap) L)
    (rp : Nat → Nat) (R : Nat → Dr) (hT : ∀ i, i < n → T (o + i) = refT (rp i) (R i)) (q : Who) (hq : Listed L q n rp) (hR : ∀ i, i < n → (R i).goes = false) (hl : L.length ≤ 1000) (v : Nat) (hv : v < 18446744073709551616) :
    Calls Tryz.prog 28 #[.slice a L.length cap, .int .u64 (v : Int)] w fun e w' => e = .returned (.tuple #[.string ⟨(Pg.joinL q R v L.length).toArray⟩, .bool (Pg.joinB q R v L.length)]) ∧ Below w.heap.size w w' := by
  obtain ⟨N, hN⟩ : ∃ N, N = L.length := ⟨_, rfl⟩
  have HL : Hid (N = L.length) := hN
  rw [← hN] at hl ⊢
  have HM : Hid (Many w B m T) := h
  have HQ : Hid (Listed L q n rp) := hq
  have HR : Hid (∀ i, i < n → (R i).goes = false) := hR
  have HT : Hid (∀ i, i < n → T (o + i) = refT (rp i) (R i)) := hT
  have HRow : Hid (T ri = rowT 41 (.slice a N cap) L) := by rw [hN]; exact hrow
  have HO : Hid (o + n ≤ m ∧ ri < o) := ⟨hon, hro⟩
  have hmx : Tryz.prog.follows .mixedOrders = true := by kernel_rfl
  have HMX : Hid (Tryz.prog.follows .mixedOrders = true) := hmx
  have HVv : Hid (v < 18446744073709551616) := hv
  have hZ : rowU (w.alloc (.cells #[.int .u8 0, .int .u8 0, .int .u8 0, .int .u8 0, .int .u8 0, .int .u8 0, .int .u8 0, .int .u8 0] 5)) w.heap.size (List.replicate 8 0) := by
    intro j hj
    constructor
    · rw [World.cell?_alloc_mark]
      have : j < 8 := by simpa using hj
      match j, this with
      | 0, _ => rfl
      | 1, _ => rfl
      | 2, _ => rfl
      | 3, _ => rfl
      | 4, _ => rfl
      | 5, _ => rfl
      | 6, _ => rfl
      | 7, _ => rfl
    · rw [World.frozen?_alloc_mark]; simp
  have HZ : Hid _ := hZ
  clear hN h hq hR hT hrow hon hro hmx hZ hv
  go_enter Tryz.func28, Tryz.ntmps28
  go_wp2
  go_loopg [7, 8] N (fun g c i wr => ∃ j : Nat, j ≤ N ∧ g = N - j ∧ c = .bool (Pg.joinB q R v j) ∧ i = .int .i64 (j : Int) ∧ rowU wr w.heap.size (Pg.joinL q R v j) ∧ Below w.heap.size w wr ∧ w.heap.size < wr.heap.size)
  case atStart => exact ⟨0, Nat.zero_le _, rfl, rfl, rfl, HZ.out, (Below.refl _ w).alloc (Nat.le_refl _) _, by simp⟩
  case round =>
    obtain ⟨j, hj, rfl, rfl, rfl, hrow, hb, hlt0⟩ := hrel
    have HRW : Hid (rowU wr w.heap.size (Pg.joinL q R v j)) := hrow
    have HB : Hid (Below w.heap.size w wr) := hb
    have HLT : Hid (w.heap.size < wr.heap.size) := hlt0
    clear hrow hb hlt0
    by_cases hlt : j < N
    · have HMr : Hid (Many wr B m T) := HM.out.below HB.out
      obtain ⟨F, hF, _⟩ := HMr.out.look (i := ri) (by have := HO.out; omega)
      rw [HRow.out] at hF
      rcases HQ.out j (by rw [← HL.out]; exact hlt) with ⟨hq, hLj⟩ | ⟨i, hi, hq, hLj⟩
      · obtain ⟨g, cp, hv, hcell⟩ := rowT_at hF hLj
        injection hv with hv1 hv2 hv3
        clear hv2 hv3
        subst hv1
        have hjn := Pg.join_none hq R v
        have HJ : Hid _ := hjn
        clear hq hLj hF hjn
        go_wp2
        go_roundg (N - (j + 1))
        case measure => omega
        case rel => exact ⟨j + 1, by omega, rfl, by rw [HJ.out.2], by go_num, by rw [HJ.out.1]; exact HRW.out, HB.out, HLT.out⟩
      · obtain ⟨g, cp, hv, hcell⟩ := rowT_at hF hLj
        injection hv with hv1 hv2 hv3
        clear hv2 hv3
        subst hv1
        obtain ⟨F2, hF2, _⟩ := HMr.out.look (i := o + i) (by have := HO.out; omega)
        rw [HT.out i hi] at hF2
        have hd : RefAt wr (rp i) (R i) F2 := hF2
        have hC := rload11_any hd (HR.out i hi)
        obtain ⟨x, hx⟩ : ∃ x, x = (R i).pgE := ⟨_, rfl⟩
        obtain ⟨P, hP⟩ : ∃ P, P = (R i).pgS := ⟨_, rfl⟩
        have hcnt : Pg.counts (R i) v = (x == 0 && decide (v ≤ P.ev)) := by rw [hx, hP]; rfl
        have hps : x = 0 → P.bits.size = 8 := fun e => by rw [hP]; exact Dr.pgS_size (by rw [← hx]; exact e)
        rw [← hx, ← hP] at hC
        have hN := fun (e : Pg.counts (R i) v = false) => Pg.join_no hq e
        have hY := fun (e : Pg.counts (R i) v = true) => Pg.join_yes hq e
        rw [← hP] at hY
        rw [hcnt] at hN hY
        obtain ⟨xe, xb⟩ := P
        unfold pgV at hC
        dsimp only at hN hY hps hC
        have HN : Hid _ := hN
        have HY : Hid _ := hY
        have HPS : Hid _ := hps
        clear hq hi hLj hF hF2 hd hx hP hcnt hN hY hps
        by_cases hx0 : x = 0
        · have hz : ((x : Int) != 0) = false := by rw [bne_eq_false_iff_eq]; omega
          by_cases hve : v ≤ xe
          · have hge : ¬ (xe : Int) < (v : Int) := by omega
            have HJ : Hid _ := HY.out (by rw [hx0]; simpa using hve)
            have HS8 : Hid (xb.size = 8) := HPS.out hx0
            clear hve hx0
            go_wp2_with fail
            refine hC.mono ?_
            rintro e w2 ⟨rfl, b2⟩
            have hB2 : Below w.heap.size w w2 := HB.out.trans (b2.mono HB.out.size)
            have R2 := HRW.out.below b2 HLT.out
            have l2 : w.heap.size < w2.heap.size := Nat.lt_of_lt_of_le HLT.out b2.size
            have HB3 : Hid (Below w.heap.size w (w2.alloc (.cells #[.int .u64 (xe : Int), .string xb] 30))) := hB2.alloc hB2.size _
            have HR3 : Hid (rowU (w2.alloc (.cells #[.int .u64 (xe : Int), .string xb] 30)) w.heap.size (Pg.joinL q R v j)) := R2.below ((Below.refl _ w2).alloc (Nat.le_refl _) _) l2
            have HL2 : Hid (w.heap.size < w2.heap.size) := l2
            clear hC hB2 R2 b2 l2
            go_wp2
            obtain ⟨w3, hw3⟩ : ∃ w3, w3 = w2.alloc (.cells #[.int .u64 (xe : Int), .string xb] 30) := ⟨_, rfl⟩
            have hp1 : w3.cell? ⟨w2.heap.size, 1, none⟩ = some (.string xb) := by rw [hw3]; exact World.cell?_alloc_mark w2 _ _ (0, 0) 1
            have hl3 : w2.heap.size < w3.heap.size := by rw [hw3]; simp
            rw [← hw3] at HB3 HR3 ⊢
            obtain ⟨A, hA⟩ : ∃ A, A = Pg.joinL q R v j := ⟨_, rfl⟩
            have hA8 : A.length = 8 := by rw [hA]; exact Pg.joinL_length q R v j
            have hX8 : xb.data.toList.length = 8 := by rw [Pg.list_size]; exact HS8.out
            rw [← hA] at HR3 HJ
            have HA8 : Hid (A.length = 8) := hA8
            have HX8 : Hid (xb.data.toList.length = 8) := hX8
            have HP1 : Hid (w3.cell? ⟨w2.heap.size, 1, none⟩ = some (.string xb)) := hp1
            have HL3 : Hid (w2.heap.size < w3.heap.size) := hl3
            clear hw3 hA hA8 hX8 hp1 hl3
            have hgd : decide (xe < v) = false := decide_eq_false (by omega)
            simp only [hgd]
            go_loopg [11] 8 (fun g2 k wz => ∃ t : Nat, t ≤ 8 ∧ g2 = 8 - t ∧ k = .int .i64 (t : Int) ∧ rowU wz w.heap.size (Pg.orK A xb.data.toList t) ∧ wz.cell? ⟨w2.heap.size, 1, none⟩ = some (.string xb) ∧ Below w.heap.size w wz ∧ w2.heap.size < wz.heap.size)
            case atStart => exact ⟨0, Nat.zero_le _, rfl, rfl, by rw [Pg.orK_zero]; exact HR3.out, HP1.out, HB3.out, HL3.out⟩
            case round =>
              obtain ⟨t, ht, rfl, rfl, hrr, hpp, hbz, hlz⟩ := hrel
              have HRR : Hid (rowU wr w.heap.size (Pg.orK A xb.data.toList t)) := hrr
              have HBZ : Hid (Below w.heap.size w wr) := hbz
              have HLZ : Hid (w2.heap.size < wr.heap.size) := hlz
              by_cases ht8 : t < 8
              · obtain ⟨rc, rf⟩ := hrr t (by rw [Pg.orK_length HA8.out HX8.out ht]; exact ht8)
                rw [Pg.orK_at HA8.out HX8.out ht8] at rc
                obtain ⟨y, hy⟩ : ∃ y, y = A.getD t 0 := ⟨_, rfl⟩
                rw [← hy] at rc
                have htx : t < xb.size := by rw [HS8.out]; exact ht8
                have hti : (t : Int) < (xb.size : Int) := by omega
                have hbt := Pg.byt11_at xb t htx
                obtain ⟨u, hu⟩ : ∃ u, u = xb[t]'htx := ⟨_, rfl⟩
                have hor := Pg.u8_or y u
                have HYU : Hid (y = A.getD t 0 ∧ u = xb.data.toList.getD t 0) := ⟨hy, by rw [hu, hbt]; rfl⟩
                rw [hu] at hor
                have ht8i : (t : Int) < 8 := by omega
                clear hy hbt hbz hlz hrr
                go_wp2_with fail
                have HHU : Hid (u = xb[t]'htx) := hu
                have n1 : w.heap.size ≠ w2.heap.size := by have := HL2.out; omega
                refine wp_region_held (S := fun W => W.cell? ⟨w2.heap.size, 1, none⟩ = some (.string xb)) HMX.out ?_
                have hS : (fun W : World => W.cell? ⟨w2.heap.size, 1, none⟩ = some (.string xb)) wr.drew := hpp
                change wpAnyH _ _ _ _ _ _ _ _ wr.drew
                clear hu
                refine held_quiet 0 (v := ?v0q1) rfl (by kernel_rfl) (fun _ _ _ h => h) (by assumption) rfl ?hy0q1 ?rest0q1
                case hy0q1 => (intro wS hSw; (try dsimp only at hSw); go_simp; try with_reducible rfl)
                try simp only [Act.put, List.setIfInBounds_toArray, List.set_cons_zero, List.set_cons_succ]
                refine held_quiet 1 (v := ?v1q2) rfl (by kernel_rfl) (fun _ _ _ h => h) (by assumption) rfl ?hy1q2 ?rest1q2
                case hy1q2 => (intro wS hSw; (try dsimp only at hSw); go_simp; try with_reducible rfl)
                try simp only [Act.put, List.setIfInBounds_toArray, List.set_cons_zero, List.set_cons_succ]
                refine held_quiet 2 (v := ?v2q3) rfl (by kernel_rfl) (fun _ _ _ h => h) (by assumption) rfl ?hy2q3 ?rest2q3
                case hy2q3 => (intro wS hSw; (try dsimp only at hSw); go_simp; try with_reducible rfl)
                try simp only [Act.put, List.setIfInBounds_toArray, List.set_cons_zero, List.set_cons_succ]
                refine held_quiet 3 (v := ?v3q4) rfl (by kernel_rfl) (fun _ _ _ h => h) (by assumption) rfl ?hy3q4 ?rest3q4
                case hy3q4 => (intro wS hSw; (try dsimp only at hSw); go_simp; try with_reducible rfl)
                try simp only [Act.put, List.setIfInBounds_toArray, List.set_cons_zero, List.set_cons_succ]
                refine held_quiet 4 (v := ?v4q5) rfl (by kernel_rfl) (fun _ _ _ h => h) (by assumption) rfl ?hy4q5 ?rest4q5
                case hy4q5 => (intro wS hSw; (try dsimp only at hSw); go_simp; try with_reducible rfl)
                try simp only [Act.put, List.setIfInBounds_toArray, List.set_cons_zero, List.set_cons_succ]
                refine held_quiet 6 (v := ?v6q6) rfl (by kernel_rfl) (fun _ _ _ h => h) (by assumption) rfl ?hy6q6 ?rest6q6
                case hy6q6 => (intro wS hSw; (try dsimp only at hSw); go_simp; try with_reducible rfl)
                try simp only [Act.put, List.setIfInBounds_toArray, List.set_cons_zero, List.set_cons_succ]
                refine held_quiet 7 (v := ?v7q7) rfl (by kernel_rfl) (fun _ _ _ h => h) (by assumption) rfl ?hy7q7 ?rest7q7
                case hy7q7 => (intro wS hSw; (try dsimp only at hSw); go_simp; try with_reducible rfl)
                try simp only [Act.put, List.setIfInBounds_toArray, List.set_cons_zero, List.set_cons_succ]
                refine held_quiet 8 (v := ?v8q8) rfl (by kernel_rfl) (fun _ _ _ h => h) (by assumption) rfl ?hy8q8 ?rest8q8
                case hy8q8 => (intro wS hSw; (try dsimp only at hSw); go_simp; try with_reducible rfl)
                try simp only [Act.put, List.setIfInBounds_toArray, List.set_cons_zero, List.set_cons_succ]
                refine held_quiet 9 (v := ?v9q9) rfl (by kernel_rfl) (fun _ _ _ h => h) (by assumption) rfl ?hy9q9 ?rest9q9
                case hy9q9 => (intro wS hSw; (try dsimp only at hSw); go_simp; try with_reducible rfl)
                try simp only [Act.put, List.setIfInBounds_toArray, List.set_cons_zero, List.set_cons_succ]
                refine held_one 5 rfl (by kernel_rfl) ?_
                go_wp2
                try refine ⟨hS, ?_⟩
                refine held_quiet 10 (v := ?v10q10) rfl (by kernel_rfl) (fun _ _ _ h => h) (by assumption) rfl ?hy10q10 ?rest10q10
                case hy10q10 => (intro wS hSw; (try dsimp only at hSw); go_simp; try with_reducible rfl)
                try simp only [Act.put, List.setIfInBounds_toArray, List.set_cons_zero, List.set_cons_succ]
                refine held_quiet 11 (v := ?v11q11) rfl (by kernel_rfl) (fun _ _ _ h => h) (by assumption) rfl ?hy11q11 ?rest11q11
                case hy11q11 => (intro wS hSw; (try dsimp only at hSw); go_simp; try with_reducible rfl)
                try simp only [Act.put, List.setIfInBounds_toArray, List.set_cons_zero, List.set_cons_succ]
                refine held_one 12 rfl (by kernel_rfl) ?_
                go_wp2
                try refine ⟨(World.cell?_setCell_other _ _ _ _ (fun e => by injection e with e1; exact n1 e1)).trans hpp, ?_⟩
                refine held_done (by kernel_rfl) ?_
                go_wp2
                go_roundg (8 - (t + 1))
                case measure => omega
                case rel =>
                  refine ⟨t + 1, by omega, rfl, by go_num, ?_, ?_, ?_, ?_⟩
                  · have h2 := (HRR.out.set t (by rw [Pg.orK_length HA8.out HX8.out ht]; exact ht8) (y ||| u)).drew
                    rw [HYU.out.1, HYU.out.2, Pg.orK_next HA8.out HX8.out ht8] at h2
                    rw [← HHU.out, HYU.out.1, HYU.out.2]
                    exact h2
                  · exact (World.cell?_setCell_other _ _ _ _ (fun e => by injection e with e1; exact n1 e1)).trans hpp
                  · exact HBZ.out.trans (((Only.setCell (fun k => k = w.heap.size) wr ⟨w.heap.size, t, none⟩ _ rfl).then (Only.drew _ _)).below (fun k hk => by rw [hk]; exact Nat.le_refl _) HBZ.out.size)
                  · have := HLZ.out; simpa [World.setCell] using this
              · have ht8' : t = 8 := by omega
                subst ht8'
                have hq8 := Pg.orK_all HA8.out HX8.out
                have HRF : Hid (rowU wr w.heap.size (Pg.joinL q R v (j + 1))) := by
                  show rowU _ _ _
                  rw [HJ.out.1, ← hq8]; exact HRR.out
                clear hq8 hrr hbz hlz hpp ht8
                go_wp2
                go_roundg (N - (j + 1))
                case measure => omega
                case rel => exact ⟨j + 1, by omega, rfl, by rw [HJ.out.2], by go_num, HRF.out, HBZ.out, by have := HLZ.out; have := HL2.out; omega⟩
          · have hge : (xe : Int) < (v : Int) := by omega
            have HJ : Hid _ := HN.out (by simp; intro _; omega)
            clear hve hx0
            go_wp2_with fail
            refine hC.mono ?_
            rintro e w2 ⟨rfl, b2⟩
            have hB2 : Below w.heap.size w w2 := HB.out.trans (b2.mono HB.out.size)
            have R2 := HRW.out.below b2 HLT.out
            have l2 : w.heap.size < w2.heap.size := Nat.lt_of_lt_of_le HLT.out b2.size
            have HB3 : Hid (Below w.heap.size w (w2.alloc (.cells #[.int .u64 (xe : Int), .string xb] 30))) := hB2.alloc hB2.size _
            have HR3 : Hid (rowU (w2.alloc (.cells #[.int .u64 (xe : Int), .string xb] 30)) w.heap.size (Pg.joinL q R v j)) := R2.below ((Below.refl _ w2).alloc (Nat.le_refl _) _) l2
            have HL2 : Hid (w.heap.size < w2.heap.size) := l2
            clear hC hB2 R2 b2 l2
            go_wp2
            go_roundg (N - (j + 1))
            case measure => omega
            case rel => exact ⟨j + 1, by omega, rfl, by rw [HJ.out.2], by go_num, by rw [HJ.out.1]; exact HR3.out, HB3.out, by have := HL2.out; simp; omega⟩
        · have hz : ((x : Int) != 0) = true := by rw [bne_iff_ne]; omega
          have HJ : Hid _ := HN.out (by simp; intro e; exact absurd e hx0)
          clear hx0
          go_wp2_with fail
          refine hC.mono ?_
          rintro e w2 ⟨rfl, b2⟩
          have hB2 : Below w.heap.size w w2 := HB.out.trans (b2.mono HB.out.size)
          have R2 := HRW.out.below b2 HLT.out
          have l2 : w.heap.size < w2.heap.size := Nat.lt_of_lt_of_le HLT.out b2.size
          have HB3 : Hid (Below w.heap.size w (w2.alloc (.cells #[.int .u64 (xe : Int), .string xb] 30))) := hB2.alloc hB2.size _
          have HR3 : Hid (rowU (w2.alloc (.cells #[.int .u64 (xe : Int), .string xb] 30)) w.heap.size (Pg.joinL q R v j)) := R2.below ((Below.refl _ w2).alloc (Nat.le_refl _) _) l2
          have HL2 : Hid (w.heap.size < w2.heap.size) := l2
          clear hC hB2 R2 b2 l2
          go_wp2
          go_roundg (N - (j + 1))
          case measure => omega
          case rel => exact ⟨j + 1, by omega, rfl, by rw [HJ.out.2], by go_num, by rw [HJ.out.1]; exact HR3.out, HB3.out, by have := HL2.out; simp; omega⟩
    · have hjN : j = N := by omega
      subst hjN
      have hl8 := Pg.joinL_length q R v j
      have HL8 : Hid ((Pg.joinL q R v j).length = 8) := hl8
      have hcv := HRW.out.back (P := Tryz.prog) 91 9 5 8 8 hl8 Tryz.underlying91 Tryz.underlying5 Tryz.underlying9
      obtain ⟨z, hz⟩ : ∃ z : ByteArray, z = ⟨(Pg.joinL q R v j).toArray⟩ := ⟨_, rfl⟩
      rw [← hz] at hcv
      have HZz : Hid (z = ⟨(Pg.joinL q R v j).toArray⟩) := hz
      clear hl8 hlt hz
      go_wp2
      go_ret2
      exact ⟨by rw [← HZz.out]; rfl, HB.out⟩
end Go.Proofs.YtlcoibfpebggoaaGreatDoor
