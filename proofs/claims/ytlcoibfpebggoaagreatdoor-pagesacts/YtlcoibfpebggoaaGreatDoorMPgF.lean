/- Several texts in one. The walks of pages' put, Save and Load, on whatever drive. The iterator that tells the drives of a list, without what is none. What stands in memory while All goes through its drives. The walk of the program's own All. The closure that joins a page: the bits in an array of the call's own, and whether there is one. The walk of the program's own Join. -/
import Derived.Test.YtlcoibfpebggoaaGreatDoorPgSays
import Derived.Test.YtlcoibfpebggoaaGreatDoorRef11Enc
import Derived.Test.YtlcoibfpebggoaaGreatDoorMDrvC
import Derived.RangeFuncBox
import Derived.RangeFuncLeaves
import Derived.Shelf.Abstract
import Derived.OwnWalkIn
import Derived.TacticsInMore
import Derived.LoopNIn
import Derived.LoopIn
import Derived.Test.YtlcoibfpebggoaaGreatDoorKit
import Derived.Test.YtlcoibfpebggoaaGreatDoorMKitC
import Derived.Test.YtlcoibfpebggoaaGreatDoorDrvMany
import Derived.Test.YtlcoibfpebggoaaGreatDoorMPgC
import Derived.RangeFuncBound
import Derived.RangeFuncCalls
import Derived.Test.YtlcoibfpebggoaaGreatDoorMPgE
import Derived.Test.YtlcoibfpebggoaaGreatDoorKitRound
import Derived.Test.YtlcoibfpebggoaaGreatDoorKitMem
import Derived.Deep.LoopGhost
import Derived.BigQuiet
import Derived.Laws.EntriesVeiled
namespace Go.Proofs.YtlcoibfpebggoaaGreatDoor
open Go.RowKit

/-- nothing but what is new has turned: the drive stays, its footprint may grow -/
theorem kept11 {w w' : World} {p : Nat} {D : Dr} {F : Nat → Prop} (h : DriveAt w p D F) (hb : Below w.heap.size w w') : DriveAt w' p D (Plus F w.heap.size) ∧ Only F w w' :=
  ⟨(h.below hb).mono fun _ hk => .inl hk, Only.of_below hb F⟩

set_option maxRecDepth 100000 in
set_option maxHeartbeats 2000000 in
theorem put_no {w : World} {r : Nat} {D : Dr} {F : Nat → Prop} (h : DriveAt w r D F) (t : ByteArray) (h64 : t.size = 64) (ht : D.takeE 2 64 ≠ 0) :
    Calls Tryz.prog 39 #[.pointer (some ⟨r, 0, none⟩), .string t] w fun e w' => e = .returned (.int .i64 (D.takeE 2 64 : Nat)) ∧ DriveAt w' r D (Plus F w.heap.size) ∧ Only F w w' := by
  have hW := fun (W : World) (hW : DriveAt W r D F) => write_no hW 2 t (by rw [h64]; exact ht)
  rw [h64] at hW
  obtain ⟨q, eq⟩ : ∃ q, q = D.takeE 2 64 := ⟨_, rfl⟩
  rw [← eq] at hW ht ⊢
  have hne : ((q : Int) != 0) = true := by simp only [bne_iff_ne, ne_eq]; omega
  have H : Hid (DriveAt w r D F) := h
  have hw := hW w h
  clear h h64 ht eq hW
  go_enter Tryz.func39, Tryz.ntmps39
  go_wp2_with fail
  refine hw.mono ?_
  rintro e w2 ⟨rfl, rfl⟩
  go_wp2
  go_ret
  exact ⟨rfl, kept11 H.out (Below.refl _ _)⟩

set_option maxRecDepth 100000 in
set_option maxHeartbeats 2000000 in
theorem put_half {w : World} {r : Nat} {D : Dr} {F : Nat → Prop} (h : DriveAt w r D F) (t : ByteArray) (h64 : t.size = 64) (ht : D.takeE 2 64 = 0) (hi : 2 < D.safe.length) (hlen : (D.writes 2).length ≤ 1000000) (hr : (D.write 2 t.data.toList).runsE ≠ 0) :
    Calls Tryz.prog 39 #[.pointer (some ⟨r, 0, none⟩), .string t] w fun e w' => e = .returned (.int .i64 ((D.write 2 t.data.toList).runsE : Nat)) ∧ DriveAt w' r (D.write 2 t.data.toList) (Plus F w.heap.size) ∧ Only F w w' := by
  have hw := write_yes h 2 t (by rw [h64]; exact ht) hi hlen
  obtain ⟨D2, eD⟩ : ∃ D2, D2 = D.write 2 t.data.toList := ⟨_, rfl⟩
  rw [← eD] at hw hr ⊢
  obtain ⟨q, eq⟩ : ∃ q, q = D2.runsE := ⟨_, rfl⟩
  have hF := fun (W : World) (G : Nat → Prop) (hW : DriveAt W r D2 G) => flush_no hW hr
  rw [← eq] at hr hF ⊢
  have hne : ((q : Int) != 0) = true := by simp only [bne_iff_ne, ne_eq]; omega
  have HF : Hid _ := hF
  clear h h64 ht hF hlen hi eD eq hr
  go_enter Tryz.func39, Tryz.ntmps39
  go_wp2_with fail
  refine hw.mono ?_
  rintro e w2 ⟨rfl, hd, ho⟩
  have HD : Hid (DriveAt w2 r D2 (Plus F w.heap.size) ∧ Only F w w2) := ⟨hd, ho⟩
  have hf := HF.out w2 _ hd
  clear hw hd ho
  go_wp2_with fail
  refine hf.mono ?_
  rintro e w3 ⟨rfl, rfl⟩
  go_wp2
  go_ret
  exact ⟨rfl, HD.out⟩

set_option maxRecDepth 100000 in
set_option maxHeartbeats 2000000 in
theorem put_yes {w : World} {r : Nat} {D : Dr} {F : Nat → Prop} (h : DriveAt w r D F) (t : ByteArray) (h64 : t.size = 64) (ht : D.takeE 2 64 = 0) (hi : 2 < D.safe.length) (hlen : ∀ i, (D.writes i).length < 1000000) (hr : (D.write 2 t.data.toList).runsE = 0) :
    Calls Tryz.prog 39 #[.pointer (some ⟨r, 0, none⟩), .string t] w fun e w' => e = .returned (.int .i64 0) ∧ DriveAt w' r (D.write 2 t.data.toList).flush (Plus F w.heap.size) ∧ Only F w w' := by
  have hw := write_yes h 2 t (by rw [h64]; exact ht) hi (Nat.le_of_lt (hlen _))
  have hlen2 : ∀ i, ((D.write 2 t.data.toList).writes i).length ≤ 1000000 := fun i => by
    show (if i = 2 then D.writes 2 ++ [t.data.toList] else D.writes i).length ≤ _
    split
    · have := hlen 2; simp; omega
    · exact Nat.le_of_lt (hlen i)
  obtain ⟨D2, eD⟩ : ∃ D2, D2 = D.write 2 t.data.toList := ⟨_, rfl⟩
  rw [← eD] at hw hlen2 hr ⊢
  have hF := fun (W : World) (G : Nat → Prop) (hW : DriveAt W r D2 G) => flush_yes hW hr hlen2
  have HF : Hid _ := hF
  clear h h64 ht hF hlen hi eD hlen2 hr
  go_enter Tryz.func39, Tryz.ntmps39
  go_wp2_with fail
  refine hw.mono ?_
  rintro e w2 ⟨rfl, hd, ho⟩
  have HD : Hid (Only F w w2) := ho
  have hf := HF.out w2 _ hd
  clear hw hd ho
  go_wp2_with fail
  refine hf.mono ?_
  rintro e w3 ⟨rfl, hd, ho⟩
  have HE : Hid (DriveAt w3 r D2.flush (Plus F w.heap.size) ∧ Only F w w3) := ⟨hd, HD.out.trans ho⟩
  clear hf hd ho
  go_wp2
  go_ret
  exact ⟨rfl, HE.out⟩

/-- put, on whatever drive -/
theorem put_any {w : World} {r : Nat} {D : Dr} {F : Nat → Prop} (h : DriveAt w r D F) (t : ByteArray) (h64 : t.size = 64) (hi : 2 < D.safe.length) (hlen : ∀ i, (D.writes i).length < 1000000) :
    Calls Tryz.prog 39 #[.pointer (some ⟨r, 0, none⟩), .string t] w fun e w' => e = .returned (.int .i64 (D.keepE t.data.toList : Nat)) ∧ DriveAt w' r (D.keepD t.data.toList) (Plus F w.heap.size) ∧ Only F w w' := by
  unfold Dr.keepE Dr.keepD
  by_cases ht : D.takeE 2 64 = 0
  · rw [if_pos ht, if_pos ht]
    by_cases hr : (D.write 2 t.data.toList).runsE = 0
    · rw [if_pos hr, hr]; exact put_yes h t h64 ht hi hlen hr
    · rw [if_neg hr]; exact put_half h t h64 ht hi (Nat.le_of_lt (hlen _)) hr
  · rw [if_neg ht, if_neg ht]; exact put_no h t h64 ht

set_option maxRecDepth 100000 in
set_option maxHeartbeats 2000000 in
theorem save11_arg (X : PgSays) {w : World} {r : Nat} {D : Dr} {F : Nat → Prop} (h : DriveAt w r D F) (p : Pge) (hev : p.ev < 18446744073709551616) (hb : p.bits.size ≠ 8) :
    Calls Tryz.prog 14 #[.pointer (some ⟨r, 0, none⟩), pgV p] w fun e w' => e = .returned (.int .i64 1) ∧ DriveAt w' r D (Plus F w.heap.size) ∧ Only F w w' := by
  have hE := fun W => X.enc p hev W
  rw [show Pg.encT p = ⟨#[]⟩ from if_neg hb, show Pg.encE p = 1 from if_neg hb] at hE
  have H : Hid (DriveAt w r D F) := h
  obtain ⟨ev, bits⟩ := p
  unfold pgV at hE ⊢
  clear h hb
  go_enter Tryz.func14, Tryz.ntmps14
  go_wp2_with fail
  refine (hE _).mono ?_
  rintro e w1 ⟨rfl, hb1⟩
  have HB : Hid (Below w.heap.size w w1) := ((Below.refl w.heap.size w).alloc (Nat.le_refl _) _).trans (hb1.mono (by simp))
  clear hE hb1
  go_wp2
  go_ret
  exact ⟨rfl, kept11 H.out HB.out⟩

set_option maxRecDepth 100000 in
set_option maxHeartbeats 2000000 in
theorem save11_good (X : PgSays) {w : World} {r : Nat} {D : Dr} {F : Nat → Prop} (h : DriveAt w r D F) (p : Pge) (hev : p.ev < 18446744073709551616) (hb : p.bits.size = 8) (hi : 2 < D.safe.length) (hlen : ∀ i, (D.writes i).length < 1000000) :
    Calls Tryz.prog 14 #[.pointer (some ⟨r, 0, none⟩), pgV p] w fun e w' => e = .returned (.int .i64 (D.keepE (Pg.secT p).data.toList : Nat)) ∧ DriveAt w' r (D.keepD (Pg.secT p).data.toList) (Plus F w.heap.size) ∧ Only F w w' := by
  have hE := fun W => X.enc p hev W
  rw [show Pg.encT p = Pg.secT p from if_pos hb, show Pg.encE p = 0 from if_pos hb] at hE
  have e3 := Pg.secT_size hev hb
  obtain ⟨t, et⟩ : ∃ t, t = Pg.secT p := ⟨_, rfl⟩
  rw [← et] at hE e3 ⊢
  have hP := fun (W : World) (hW : DriveAt W r D F) => put_any hW t e3 hi hlen
  obtain ⟨q, eq⟩ : ∃ q, q = D.keepE t.data.toList := ⟨_, rfl⟩
  obtain ⟨D2, eD⟩ : ∃ D2, D2 = D.keepD t.data.toList := ⟨_, rfl⟩
  rw [← eq, ← eD] at hP ⊢
  have H : Hid (DriveAt w r D F) := h
  have HP : Hid _ := hP
  obtain ⟨ev, bits⟩ := p
  unfold pgV at hE ⊢
  clear h hb e3 et hP eq eD hi hlen
  go_enter Tryz.func14, Tryz.ntmps14
  go_wp2_with fail
  refine (hE _).mono ?_
  rintro e w1 ⟨rfl, hb1⟩
  have HB : Hid (Below w.heap.size w w1) := ((Below.refl w.heap.size w).alloc (Nat.le_refl _) _).trans (hb1.mono (by simp))
  have hp := HP.out w1 (H.out.below HB.out)
  clear hE hb1
  go_wp2_with fail
  refine hp.mono ?_
  rintro e w2 ⟨rfl, hd, ho⟩
  have HD : Hid (DriveAt w2 r D2 (Plus F w.heap.size) ∧ Only F w w2) := ⟨hd.mono (fun _ hk => hk.imp id fun hx => Nat.le_trans HB.out.size hx), (Only.of_below HB.out F).then ho⟩
  clear hp hd ho
  go_wp2
  go_ret
  exact ⟨rfl, HD.out⟩

/-- Save, on whatever drive -/
theorem save11_any (X : PgSays) {w : World} {r : Nat} {D : Dr} {F : Nat → Prop} (h : DriveAt w r D F) (p : Pge) (hev : p.ev < 18446744073709551616) (hi : 2 < D.safe.length) (hlen : ∀ i, (D.writes i).length < 1000000) :
    Calls Tryz.prog 14 #[.pointer (some ⟨r, 0, none⟩), pgV p] w fun e w' => e = .returned (.int .i64 (D.pgSaveE p : Nat)) ∧ DriveAt w' r (D.pgSaveD p) (Plus F w.heap.size) ∧ Only F w w' := by
  unfold Dr.pgSaveE Dr.pgSaveD
  by_cases hb : p.bits.size = 8
  · rw [if_pos hb, if_pos hb]; exact save11_good X h p hev hb hi hlen
  · rw [if_neg hb, if_neg hb]; exact save11_arg X h p hev hb

set_option maxRecDepth 100000 in
set_option maxHeartbeats 2000000 in
theorem load11_no {w : World} {r : Nat} {D : Dr} {F : Nat → Prop} (h : DriveAt w r D F) (hr : D.readE 2 ≠ 0) :
    Calls Tryz.prog 25 #[.pointer (some ⟨r, 0, none⟩)] w fun e w' => e = .returned (.tuple #[pgV Pg.none, .int .i64 (D.readE 2 : Nat)]) ∧ Below w.heap.size w w' := by
  have hR := read_any (h.below ((Below.refl w.heap.size w).alloc (Nat.le_refl _) (.cells #[.int .u64 0, .string ⟨#[]⟩] 24))) 2
  obtain ⟨q, eq⟩ : ∃ q, q = D.readE 2 := ⟨_, rfl⟩
  obtain ⟨t, et⟩ : ∃ t, t = txt (D.readS 2) := ⟨_, rfl⟩
  rw [← eq] at hr hR ⊢
  rw [← et] at hR
  have hne : ((q : Int) != 0) = true := by simp only [bne_iff_ne, ne_eq]; omega
  clear eq et hr h
  go_enter Tryz.func25, Tryz.ntmps25
  go_wp2_with fail
  refine hR.mono ?_
  rintro e w1 ⟨rfl, hb1⟩
  obtain ⟨c0, c1⟩ := pg_cells hb1
  have f0 := pg_free hb1 0
  have f1 := pg_free hb1 1
  have HB : Hid (Below w.heap.size w w1) := ((Below.refl _ w).alloc (Nat.le_refl _) _).trans (hb1.mono (by simp))
  clear hb1
  clear hR
  go_wp2
  refine bodyPost_ret (ret_cell_tmp rfl _ _ ⟨w.heap.size, 0, none⟩ (pgV Pg.none) rfl (by go_simp; rfl)) rfl ?_
  exact ⟨rfl, pg_stored HB.out (Nat.le_refl _) HB.out.size _ _⟩

set_option maxRecDepth 100000 in
set_option maxHeartbeats 2000000 in
theorem load11_yes (X : PgSays) {w : World} {r : Nat} {D : Dr} {F : Nat → Prop} (h : DriveAt w r D F) (hr : D.readE 2 = 0) :
    Calls Tryz.prog 25 #[.pointer (some ⟨r, 0, none⟩)] w fun e w' => e = .returned (.tuple #[pgV (Pg.decS (txt (D.readS 2))), .int .i64 (Pg.decE (txt (D.readS 2)) : Nat)]) ∧ Below w.heap.size w w' := by
  have hR := read_any (h.below ((Below.refl w.heap.size w).alloc (Nat.le_refl _) (.cells #[.int .u64 0, .string ⟨#[]⟩] 24))) 2
  rw [hr] at hR
  obtain ⟨t, et⟩ : ∃ t, t = txt (D.readS 2) := ⟨_, rfl⟩
  rw [← et] at hR ⊢
  have hD := fun W => X.dec t W
  obtain ⟨x, ex⟩ : ∃ x, x = Pg.decS t := ⟨_, rfl⟩
  obtain ⟨g, eg⟩ : ∃ g, g = Pg.decE t := ⟨_, rfl⟩
  rw [← ex, ← eg] at hD ⊢
  obtain ⟨xe, xb⟩ := x
  unfold pgV at hD ⊢
  clear et ex eg hr h X
  go_enter Tryz.func25, Tryz.ntmps25
  go_wp2_with fail
  refine hR.mono ?_
  rintro e w1 ⟨rfl, hb1⟩
  obtain ⟨c0, c1⟩ := pg_cells hb1
  have f0 := pg_free hb1 0
  have f1 := pg_free hb1 1
  have HB : Hid (Below w.heap.size w w1) := ((Below.refl _ w).alloc (Nat.le_refl _) _).trans (hb1.mono (by simp))
  clear hb1
  clear hR
  go_wp2_with fail
  refine (hD _).mono ?_
  rintro e w2 ⟨rfl, hb2⟩
  have hl := World.block_lt_of_cell? w1 _ c0
  have d0 := (hb2.cell (p := ⟨w.heap.size, 0, none⟩) hl).trans c0
  have d1 := (hb2.cell (p := ⟨w.heap.size, 1, none⟩) hl).trans c1
  have g0 := (hb2.frozen (p := ⟨w.heap.size, 0, none⟩) hl).trans f0
  have g1 := (hb2.frozen (p := ⟨w.heap.size, 1, none⟩) hl).trans f1
  have HB2 : Hid (Below w.heap.size w w2) := HB.out.trans (hb2.mono HB.out.size)
  clear hb2 hD c0 c1 f0 f1 hl
  go_wp2
  refine bodyPost_ret (ret_cell_tmp rfl _ _ ⟨w.heap.size, 0, none⟩ (.agg #[.int .u64 (xe : Int), .string xb]) rfl (by go_simp)) rfl ?_
  exact ⟨rfl, pg_stored HB2.out (Nat.le_refl _) HB2.out.size _ _⟩

/-- Load -/
theorem load11_any (X : PgSays) {w : World} {r : Nat} {D : Dr} {F : Nat → Prop} (h : DriveAt w r D F) :
    Calls Tryz.prog 25 #[.pointer (some ⟨r, 0, none⟩)] w fun e w' => e = .returned (.tuple #[pgV D.pgS, .int .i64 (D.pgE : Nat)]) ∧ Below w.heap.size w w' := by
  unfold Dr.pgS Dr.pgE
  by_cases hr : D.readE 2 = 0
  · rw [if_pos hr, if_pos hr]; exact load11_yes X h hr
  · rw [if_neg hr, if_neg hr]; exact load11_no h hr
end Go.Proofs.YtlcoibfpebggoaaGreatDoor

namespace Go.Proofs.YtlcoibfpebggoaaGreatDoor
open Go.RowKit Go.Shelf
attribute [local go_sem] Oper.semAt_some

theorem drives_any (a : Option Addr) (len cap : Nat) (w : World) :
    Calls Tryz.prog 47 #[.slice a len cap] w fun e w' => e = .returned (.func (.func 74) #[] #[.pointer (some ⟨w.heap.size, 0, none⟩)]) ∧ w' = w.alloc (.cells #[.slice a len cap] 37) := by
  go_enter Tryz.func47, Tryz.ntmps47
  go_wp2
  go_ret
  exact ⟨rfl, rfl⟩

/-- what the iterator reads: its list, and each place of it -/
def ItReads (Bs : Nat) (a : Option Addr) (cap : Nat) (L : List Value) (W : World) : Prop :=
  W.cell? ⟨Bs, 0, none⟩ = some (.slice a L.length cap) ∧ ∀ j u, L[j]? = some u → ∃ g, a = some ⟨g, 0, none⟩ ∧ W.cell? ⟨g, j, none⟩ = some u

set_option maxRecDepth 100000 in
set_option maxHeartbeats 2000000 in
theorem drives_stops (F : Fence) (n : Nat) (hF : F.fn 74) (hro : F.round = none) (hn : 1 ≤ n) (Bs : Nat) (a : Option Addr) (cap : Nat) (L : List Value) (hL : L.length ≤ 1000)
    (hp : ∀ j, j < L.length → L[j]? = some (.pointer none) ∨ ∃ r, L[j]? = some (.pointer (some ⟨r, 0, none⟩))) :
    EachStops F n Tryz.prog 74 #[.pointer (some ⟨Bs, 0, none⟩)] L.length L (ItReads Bs a cap L) := by
  intro l J W hR hB hS hY h0
  obtain ⟨N, hN⟩ : ∃ N, N = L.length := ⟨_, rfl⟩
  have HN : Hid (N = L.length) := hN
  have HR : Hid (∀ j W', J j W' → ItReads Bs a cap L W') := hR
  have HP : Hid _ := hp
  have HS : Hid _ := hS
  have HY : Hid _ := hY
  have H0 := h0
  obtain ⟨c0, _⟩ := hR 0 W h0
  rw [← hN] at hL c0 ⊢
  clear hN hR hp hS hY hB h0
  refine callsIn_of_wp Tryz.func74 rfl hF ?_ hro
  simp only [Tryz.ntmps74, List.size_toArray, List.length_cons, List.length_nil, Nat.reduceAdd, Nat.reduceSub, Array.replicate_succ, Array.replicate_zero, List.push_toArray, List.append_toArray, List.nil_append, List.cons_append]
  gi_wp2
  gi_loopw [7] (fun i wr => ∃ k : Nat, k ≤ N ∧ i = .int .i64 k ∧ J k wr) (fun i _ => N - (intOf i).toNat)
  case atStart => exact ⟨0, Nat.zero_le _, rfl, H0⟩
  case round =>
    obtain ⟨k, hk, rfl, hJ⟩ := hrel
    by_cases hlt : k < N
    · have hp := HP.out k (by rw [← HN.out]; exact hlt)
      rcases hp with hp | ⟨r, hp⟩
      · obtain ⟨g, rfl, hc⟩ := (HR.out k wr hJ).2 k _ hp
        have hJ2 := HS.out k wr hp hJ
        clear hp
        gi_wp2
        refine ⟨fun _ h => (by cases h), ?_⟩
        gi_wp2
        go_roundw
        case rel => exact ⟨k + 1, by omega, by go_num, hJ2⟩
        case measure => simp [intOf]; omega
      · obtain ⟨g, rfl, hc⟩ := (HR.out k wr hJ).2 k _ hp
        obtain ⟨fn, tmps, assign, body, hy, hRd⟩ := HY.out k _ wr hp (by simp) hJ
        clear hp
        gi_wp2
        refine hRd.mono ?_
        rintro e W3 ⟨rfl, hJ3⟩
        gi_wp2
        go_roundw
        case rel => exact ⟨k + 1, by omega, by go_num, hJ3⟩
        case measure => simp [intOf]; omega
    · have hkk : k = N := by omega
      subst hkk
      gi_wp2
      go_end0
      exact ⟨⟨_, rfl⟩, hJ⟩
end Go.Proofs.YtlcoibfpebggoaaGreatDoor

namespace Go.Proofs.YtlcoibfpebggoaaGreatDoor
open Go.RowKit

theorem many_blk' {w : World} {B m : Nat} {T : Nat → Thing} (h : Many w B m T) {bi : Nat} (hbi : bi < m) {b : Nat} {t : TypeId} {cs : Array Value} (e : T bi = blkT b t cs) (j : Nat) : w.cell? ⟨b, j, none⟩ = cs[j]? ∧ w.frozen? ⟨b, j, none⟩ = false := by
  obtain ⟨F, hF, _⟩ := h.look hbi
  rw [e] at hF
  exact ⟨blk_cell hF j, frozen_of_row w b j cs t hF.1⟩
/-- the list of All's own blocks: its sector, its count, what the iterator holds, and the loop's two -/
def allOwn (b : Nat) (s : ByteArray) (c : Nat) (v : Value) (o0 o1 : Obj) : List Thing :=
  [blkT b 9 #[.string s], blkT (b + 1) 3 #[.int .i64 (c : Int)], blkT (b + 2) 37 #[v], objT (b + 3) o0, objT (b + 4) o1]
/-- the things from o on are the drives D; behind all m the call's own; just drives may have turned since w -/
def allI (w : World) (B m : Nat) (T : Nat → Thing) (o n : Nat) (rp : Nat → Nat) (b : Nat) (s : ByteArray) (v : Value) (D : Nat → Dr) (c : Nat) (W : World) : Prop :=
  ∃ o0 o1, Many W B (m + 5) (withL (spread T o n (fun i => drvT (rp i) (D i))) m (allOwn b s c v o0 o1)) ∧ Only (fun k => B ≤ k ∧ k < w.heap.size) w W
section
variable {w W : World} {B m : Nat} {T : Nat → Thing} {o n : Nat} {rp : Nat → Nat} {b : Nat} {s : ByteArray} {v : Value} {D : Nat → Dr} {c : Nat}
theorem allI.below {W' : World} (h : allI w B m T o n rp b s v D c W) (hb : Below W.heap.size W W') : allI w B m T o n rp b s v D c W' := by
  obtain ⟨o0, o1, hm, ho⟩ := h
  exact ⟨o0, o1, hm.below hb, ho.then (Only.of_below hb _)⟩
theorem allI.cells (h : allI w B m T o n rp b s v D c W) : (W.cell? ⟨b, 0, none⟩ = some (.string s) ∧ W.cell? ⟨b + 1, 0, none⟩ = some (.int .i64 (c : Int)) ∧ W.cell? ⟨b + 2, 0, none⟩ = some v) ∧ W.frozen? ⟨b + 1, 0, none⟩ = false := by
  obtain ⟨o0, o1, hm, _⟩ := h
  have h0 := many_blk' hm (bi := m + 0) (by omega) (withL_at 0) 0
  have h1 := many_blk' hm (bi := m + 1) (by omega) (withL_at 1) 0
  have h2 := many_blk' hm (bi := m + 2) (by omega) (withL_at 2) 0
  exact ⟨⟨h0.1, h1.1, h2.1⟩, h1.2⟩
theorem allI.reads {a : Option Addr} {cap : Nat} {L : List Value} (h : allI w B m T o n rp b s (.slice a L.length cap) D c W) {ri : Nat} (hri : ri < o) (hon : o + n ≤ m) (hrow : T ri = rowT 39 (.slice a L.length cap) L) : ItReads (b + 2) a cap L W := by
  refine ⟨h.cells.1.2.2, fun j u hj => ?_⟩
  obtain ⟨o0, o1, hm, _⟩ := h
  obtain ⟨F, hF, _⟩ := hm.look (i := ri) (by omega)
  rw [withL_low (by omega), spread_out _ _ _ _ (.inl hri), hrow] at hF
  obtain ⟨g, cp, hv, hc⟩ := rowT_at hF hj
  injection hv with hv1 _ _
  exact ⟨g, hv1, hc⟩
theorem allI.put (h : allI w B m T o n rp b s v D c W) (o' : Obj) : allI w B m T o n rp b s v D c (W.putObj (b + 4) o') := by
  obtain ⟨o0, o1, hm, ho⟩ := h
  obtain ⟨h1, h2⟩ := many_put hm (i := m + 4) (by omega) (withL_at 4) o'
  refine ⟨o0, o', h1.congr fun x _ => withL_set (by show _ < 5; decide) _ x, ho.trans (h2.mono fun k hk => ?_)⟩
  by_cases e : k < w.heap.size
  · exact .inl ⟨hk.1, e⟩
  · exact .inr (by omega)
/-- a store into the count -/
theorem allI.store (h : allI w B m T o n rp b s v D c W) (c' : Nat) : allI w B m T o n rp b s v D c' (W.setCell ⟨b + 1, 0, none⟩ (.int .i64 (c' : Int))) ∧ (W.setCell ⟨b + 1, 0, none⟩ (.int .i64 (c' : Int))).heap[b + 3]? = W.heap[b + 3]? ∧ (W.setCell ⟨b + 1, 0, none⟩ (.int .i64 (c' : Int))).heap[b + 4]? = W.heap[b + 4]? := by
  obtain ⟨o0, o1, hm, ho⟩ := h
  obtain ⟨h1, h2⟩ := many_store hm (i := m + 1) (by omega) (withL_at 1) (.int .i64 (c' : Int))
  refine ⟨⟨o0, o1, h1.congr fun x _ => withL_set (by show _ < 5; decide) _ x, ho.trans (h2.mono fun k hk => ?_)⟩, heap_setCell_other _ _ _ _ (by simp), heap_setCell_other _ _ _ _ (by simp)⟩
  by_cases e : k < w.heap.size
  · exact .inl ⟨hk.1, e⟩
  · exact .inr (by omega)
/-- a page's sector is put on the drive i -/
theorem allI.call (h : allI w B m T o n rp b s v D c W) (hon : o + n ≤ m) {i : Nat} (hi : i < n) (hf : (D i).Fit11) (h64 : s.size = 64) :
    Calls Tryz.prog 39 #[.pointer (some ⟨rp i, 0, none⟩), .string s] W fun e W' => e = .returned (.int .i64 ((D i).keepE s.data.toList : Nat)) ∧ allI w B m T o n rp b s v (swap1 D i ((D i).keepD s.data.toList)) c W' ∧ W'.heap[b + 3]? = W.heap[b + 3]? ∧ W'.heap[b + 4]? = W.heap[b + 4]? := by
  obtain ⟨o0, o1, hm, ho⟩ := h
  have k0 := many_obj hm (i := m + 3) (by omega) (withL_at 3)
  have k1 := many_obj hm (i := m + 4) (by omega) (withL_at 4)
  refine (hm.call (i := o + i) (by omega) (drvT (rp i) ((D i).keepD s.data.toList)) (Q := fun e => e = .returned (.int .i64 ((D i).keepE s.data.toList : Nat))) (fun F hF _ => ?_)).mono ?_
  · rw [withL_low (by omega), spread_in _ _ _ _ hi] at hF
    exact put_any hF s h64 hf.len hf.lens
  · rintro e W' ⟨he, hm2, ho2⟩
    have hm3 : Many W' B (m + 5) (withL (spread T o n (fun x => drvT (rp x) (swap1 D i ((D i).keepD s.data.toList) x))) m (allOwn b s c v o0 o1)) := hm2.congr fun x _ => withL_base (by omega) (fun y _ => by
      rw [spread_put _ _ _ _ hi]
      unfold spread
      split
      · unfold swap1; dsimp only; split
        · rename_i e; rw [e]
        · rfl
      · rfl) x
    refine ⟨he, ⟨o0, o1, hm3, ho.trans (ho2.mono fun k hk => ?_)⟩, ?_, ?_⟩
    · by_cases e : k < w.heap.size
      · exact .inl ⟨hk.1, e⟩
      · exact .inr (by omega)
    · rw [k0]; exact many_obj hm3 (i := m + 3) (by omega) (withL_at 3)
    · rw [k1]; exact many_obj hm3 (i := m + 4) (by omega) (withL_at 4)
/-- behind the loop, its deferred calls taken -/
theorem allI.done (h : allI w B m T o n rp b s v D c W) (x : Obj) : Many (W.putObj (b + 3) x) B m (spread T o n (fun i => drvT (rp i) (D i))) ∧ Only (fun k => B ≤ k ∧ k < w.heap.size) w (W.putObj (b + 3) x) := by
  obtain ⟨o0, o1, hm, ho⟩ := h
  obtain ⟨h1, h2⟩ := many_put hm (i := m + 3) (by omega) (withL_at 3) x
  have h3 : Many (W.putObj (b + 3) x) B (m + 5) (withL (spread T o n (fun i => drvT (rp i) (D i))) m (allOwn b s c v x o1)) := h1.congr fun y _ => withL_set (by show _ < 5; decide) _ y
  refine ⟨withL_out h3 (by omega), ho.trans (h2.mono fun k hk => ?_)⟩
  by_cases e : k < w.heap.size
  · exact .inl ⟨hk.1, e⟩
  · exact .inr (by omega)
end
/-- where All's loop begins -/
theorem allI.start {w w1 : World} {B m : Nat} {T : Nat → Thing} {o n : Nat} {rp : Nat → Nat} {s : ByteArray} {v : Value} {R : Nat → Dr} (h : Many w B m T) (hT : ∀ i, i < n → T (o + i) = drvT (rp i) (R i)) (hb : Below w.heap.size w w1) (r : Obj) :
    allI w B m T o n rp w1.heap.size s v R 0 (((((w1.alloc (.cells #[.string s] 9)).alloc (.cells #[.int .i64 0] 3)).alloc (.cells #[v] 37)).alloc (.deferred (some []))).alloc r) := by
  have h0 : Many w1 B m (withL T m []) := withL_nil (h.below hb)
  have al : ∀ (X : World) (x : Obj), Below X.heap.size X (X.alloc x) := fun X x => (Below.refl _ X).alloc (Nat.le_refl _) x
  have h1 := withL_add h0 rfl (al w1 _) (blk_new w1 9 #[.string s]) (fun _ h => h)
  have h2 := withL_add h1 rfl (al _ _) (blk_new _ 3 #[.int .i64 0]) (fun _ h => h)
  have h3 := withL_add h2 rfl (al _ _) (blk_new _ 37 #[v]) (fun _ h => h)
  have h4 := withL_add h3 rfl (al _ (.deferred (some []))) (t := objT _ _) (G := fun k => _ ≤ k) ⟨World.alloc_heap_new _ _, Nat.le_refl _⟩ (fun _ h => h)
  have h5 := withL_add h4 rfl (al _ r) (t := objT _ _) (G := fun k => _ ≤ k) ⟨World.alloc_heap_new _ _, Nat.le_refl _⟩ (fun _ h => h)
  simp only [World.size_alloc, List.nil_append, List.cons_append] at h5
  refine ⟨.deferred (some []), r, h5.congr fun x _ => ?_, Only.of_below (((((hb.alloc hb.size _).alloc (by have := hb.size; simp; omega) _).alloc (by have := hb.size; simp; omega) _).alloc (by have := hb.size; simp; omega) _).alloc (by have := hb.size; simp; omega) _) _⟩
  unfold withL
  split
  · rw [spread_same hT]
  · rfl
end Go.Proofs.YtlcoibfpebggoaaGreatDoor

namespace Go.Proofs.YtlcoibfpebggoaaGreatDoor
open Go.RowKit Go.Shelf
attribute [local go_sem] Oper.semAt_some

set_option maxRecDepth 100000 in
set_option maxHeartbeats 1000000 in
theorem all11_bad (X : PgSays) {w : World} (a : Option Addr) (n cap : Nat) (ev : Nat) (hev : ev < 18446744073709551616) (bits : ByteArray) (hb : bits.size ≠ 8) :
    Calls Tryz.prog 22 #[.slice a n cap, .agg #[.int .u64 (ev : Int), .string bits]] w fun e w' => e = .returned (.tuple #[.int .i64 0, .int .i64 1]) ∧ Below w.heap.size w w' := by
  have hE := fun W => X.enc ⟨ev, bits⟩ hev W
  rw [show Pg.encT ⟨ev, bits⟩ = ⟨#[]⟩ from if_neg hb, show Pg.encE ⟨ev, bits⟩ = 1 from if_neg hb] at hE
  unfold pgV at hE
  clear hb
  go_enter Tryz.func22, Tryz.ntmps22
  go_wp2_with fail
  refine (hE _).mono ?_
  rintro e w1 ⟨rfl, hb1⟩
  have HB : Hid (Below w.heap.size w w1) := ((Below.refl w.heap.size w).alloc (Nat.le_refl _) _).trans (hb1.mono (by simp))
  clear hE hb1
  go_wp2
  go_ret2
  exact ⟨rfl, HB.out.alloc HB.out.size _⟩

set_option maxRecDepth 100000 in
set_option maxHeartbeats 4000000 in
theorem all11_good (X : PgSays) {w : World} {B m : Nat} {T : Nat → Thing} (h : Many w B m T) (ri : Nat) (o n : Nat) (hon : o + n ≤ m) (hro : ri < o) (a : Option Addr) (cap : Nat) (L : List Value) (hrow : T ri = rowT 39 (.slice a L.length cap) L)
    (rp : Nat → Nat) (R : Nat → Dr) (hT : ∀ i, i < n → T (o + i) = drvT (rp i) (R i)) (q : Who) (hq : Listed L q n rp) (hR : ∀ i, i < n → (R i).Fit11) (hl : L.length ≤ 1000)
    (ev : Nat) (hev : ev < 18446744073709551616) (bits : ByteArray) (hb : bits.size = 8) :
    Calls Tryz.prog 22 #[.slice a L.length cap, .agg #[.int .u64 (ev : Int), .string bits]] w fun e w' =>
      e = .returned (.tuple #[.int .i64 (Pg.allN q R ⟨ev, bits⟩ L.length : Nat), .int .i64 (Pg.allE (Pg.allN q R ⟨ev, bits⟩ L.length) : Nat)]) ∧ Many w' B m (spread T o n (fun i => drvT (rp i) (Pg.allD q R ⟨ev, bits⟩ L.length i))) ∧ Only (fun k => B ≤ k ∧ k < w.heap.size) w w' := by
  have hE := fun W => X.enc ⟨ev, bits⟩ hev W
  rw [show Pg.encT ⟨ev, bits⟩ = Pg.secT ⟨ev, bits⟩ from if_pos hb, show Pg.encE ⟨ev, bits⟩ = 0 from if_pos hb] at hE
  unfold pgV at hE
  have h64 := Pg.secT_size (p := ⟨ev, bits⟩) hev hb
  have hsE : ∀ D : Dr, D.pgSaveE ⟨ev, bits⟩ = D.keepE (Pg.secT ⟨ev, bits⟩).data.toList := fun D => if_pos hb
  have hsD : ∀ D : Dr, D.pgSaveD ⟨ev, bits⟩ = D.keepD (Pg.secT ⟨ev, bits⟩).data.toList := fun D => if_pos hb
  obtain ⟨s, hs⟩ : ∃ s, s = Pg.secT ⟨ev, bits⟩ := ⟨_, rfl⟩
  rw [← hs] at hE h64 hsE hsD
  have HM : Hid (Many w B m T) := h
  have HQ : Hid (Listed L q n rp) := hq
  have HR : Hid (∀ i, i < n → (R i).Fit11) := hR
  have HT : Hid (∀ i, i < n → T (o + i) = drvT (rp i) (R i)) := hT
  have HRow : Hid (T ri = rowT 39 (.slice a L.length cap) L) := hrow
  have HO : Hid (o + n ≤ m ∧ ri < o) := ⟨hon, hro⟩
  have HE : Hid _ := hsE
  have HD : Hid _ := hsD
  have H64 : Hid (s.size = 64) := h64
  have Hl : Hid (L.length ≤ 1000) := hl
  have hit : ∀ j, j < L.length → L[j]? = some (.pointer none) ∨ ∃ r, L[j]? = some (.pointer (some ⟨r, 0, none⟩)) := fun j hj => (hq j hj).imp (·.2) (fun ⟨i, _, _, h⟩ => ⟨_, h⟩)
  have HI : Hid _ := hit
  clear hs h hq hR hT hrow hev hb hon hro hsE hsD h64 hl hit
  refine (callsIn_wide (n := 3)).1 ?_
  refine callsIn_of_wp_marks Tryz.func22 rfl trivial ?_ rfl
  simp only [Tryz.ntmps22, List.size_toArray, List.length_cons, List.length_nil, Nat.reduceAdd, Nat.reduceSub, Array.replicate_succ, Array.replicate_zero, List.push_toArray, List.append_toArray, List.nil_append, List.cons_append]
  gi_wp2_with fail
  refine ⟨trivial, (callsIn_wide.2 (hE _)).mono ?_⟩
  rintro e w1 ⟨rfl, hb1⟩
  have HB1 : Hid (Below w.heap.size w w1) := ((Below.refl w.heap.size w).alloc (Nat.le_refl _) _).trans (hb1.mono (by simp))
  clear hb1 hE
  gi_wp2_with fail
  refine ⟨trivial, (callsIn_wide.2 (drives_any a L.length cap _)).mono ?_⟩
  rintro e w' ⟨rfl, rfl⟩
  gi_wp2_with fail
  obtain ⟨W3, hW3⟩ : ∃ W3, W3 = ((w1.alloc (.cells #[.string s] 9)).alloc (.cells #[.int .i64 0] 3)).alloc (.cells #[.slice a L.length cap] 37) := ⟨_, rfl⟩
  have hz3 : W3.heap.size = w1.heap.size + 3 := by rw [hW3]; simp
  have hs0 : ∀ r, allI w B m T o n rp w1.heap.size s (.slice a L.length cap) (Pg.allD q R ⟨ev, bits⟩ 0) (Pg.allN q R ⟨ev, bits⟩ 0) ((W3.alloc (.deferred (some []))).alloc (.loop r)) := fun r => by rw [hW3]; exact allI.start HM.out HT.out HB1.out _
  rw [← hW3]
  refine' range_each rfl (by decide) (gf := 74) (lb := #[.pointer (some ⟨w1.heap.size + 1 + 1, 0, none⟩)]) rfl trivial (enters_of Tryz.func74 (by kernel_rfl) rfl)
    (drives_stops Fence.wide (3 - 1) trivial rfl (by decide) (w1.heap.size + 1 + 1) a cap L Hl.out HI.out)
    (fun j W => allI w B m T o n rp w1.heap.size s (.slice a L.length cap) (Pg.allD q R ⟨ev, bits⟩ j) (Pg.allN q R ⟨ev, bits⟩ j) W)
    (fun j W h => h.reads HO.out.2 HO.out.1 HRow.out) (fun j A A' h hb => h.below hb) ?skip (fun j A r r' h _ => by rw [hz3]; exact h.put _) hs0 _ ?assign ?body ?done
  case skip =>
    intro j A hj h
    have hlt := (List.getElem?_eq_some_iff.1 hj).1
    rcases HQ.out j hlt with ⟨h0, _⟩ | ⟨i, _, _, h1⟩
    · rw [Pg.allD_none h0, Pg.allN_none h0]; exact h
    · rw [hj] at h1; cases h1
  case assign =>
    intro l u W K hK
    gi_wp2
    exact hK
  case body =>
    rintro j u W hj hu hi ⟨r, hr⟩ hk
    have hlt := (List.getElem?_eq_some_iff.1 hj).1
    rcases HQ.out j hlt with ⟨_, h0⟩ | ⟨i, hin, hqj, h1⟩
    · rw [hj] at h0; cases h0; exact absurd rfl hu
    · rw [hj] at h1; cases h1
      have hf := Dr.Fit11.all (q := q) HR.out ⟨ev, bits⟩ j i hin
      obtain ⟨⟨c0, _, _⟩, _⟩ := hi.cells
      have hc := hi.call HO.out.1 hin hf H64.out
      have hle := Pg.allN_le q R ⟨ev, bits⟩ j
      have hl := Hl.out
      rw [← HE.out, ← HD.out] at hc
      obtain ⟨x, hx⟩ : ∃ x, x = (Pg.allD q R ⟨ev, bits⟩ j i).pgSaveE ⟨ev, bits⟩ := ⟨_, rfl⟩
      obtain ⟨c, hcc⟩ : ∃ c, c = Pg.allN q R ⟨ev, bits⟩ j := ⟨_, rfl⟩
      rw [← hx, ← hcc] at hc
      rw [← hcc] at hle
      have hc1000 : c ≤ 1000 := by omega
      have HX : Hid _ := hx
      have HC : Hid _ := hcc
      have HQj : Hid (q j = some i) := hqj
      have HZ3 : Hid (W3.heap.size = w1.heap.size + 3) := hz3
      clear hx hcc hi hr hk hqj hf hl hle hlt hj hu hs0 hW3
      by_cases hx0 : x = 0
      · have hz : ((x : Int) == 0) = true := by rw [beq_iff_eq]; omega
        gi_wp2_with fail
        refine ⟨trivial, (CallsIn.inRound _ (callsIn_wide.2 hc)).mono ?_⟩
        rintro e W2 ⟨rfl, hi2, k3, k4⟩
        obtain ⟨⟨_, d1, _⟩, g1⟩ := hi2.cells
        have HI2 : Hid (allI w B m T o n rp w1.heap.size s (.slice a L.length cap) (swap1 (Pg.allD q R ⟨ev, bits⟩ j) i ((Pg.allD q R ⟨ev, bits⟩ j i).pgSaveD ⟨ev, bits⟩)) c W2) := hi2
        have HK : Hid (W2.heap[w1.heap.size + 3]? = W.heap[w1.heap.size + 3]? ∧ W2.heap[w1.heap.size + 4]? = W.heap[w1.heap.size + 4]?) := ⟨k3, k4⟩
        clear hi2 k3 k4 hc c0
        gi_wp2
        obtain ⟨s1, s2, s3⟩ := HI2.out.store (c + 1)
        rw [show (((c + 1 : Nat)) : Int) = (c : Int) + 1 from rfl] at s1 s2 s3
        refine ⟨?_, ?_, ?_⟩
        · rw [Pg.allD_some HQj.out, Pg.allN_yes HQj.out (by rw [← HX.out]; exact hx0), ← HC.out]; exact s1
        · rw [HZ3.out]; exact s2.trans HK.out.1
        · rw [HZ3.out]; exact s3.trans HK.out.2
      · have hz : ((x : Int) == 0) = false := by rw [beq_eq_false_iff_ne]; omega
        gi_wp2_with fail
        refine ⟨trivial, (CallsIn.inRound _ (callsIn_wide.2 hc)).mono ?_⟩
        rintro e W2 ⟨rfl, hi2, k3, k4⟩
        have HI2 : Hid (allI w B m T o n rp w1.heap.size s (.slice a L.length cap) (swap1 (Pg.allD q R ⟨ev, bits⟩ j) i ((Pg.allD q R ⟨ev, bits⟩ j i).pgSaveD ⟨ev, bits⟩)) c W2) := hi2
        have HK : Hid (W2.heap[w1.heap.size + 3]? = W.heap[w1.heap.size + 3]? ∧ W2.heap[w1.heap.size + 4]? = W.heap[w1.heap.size + 4]?) := ⟨k3, k4⟩
        clear hi2 k3 k4 hc c0
        gi_wp2
        refine ⟨?_, ?_, ?_⟩
        · rw [Pg.allD_some HQj.out, Pg.allN_no HQj.out (by rw [← HX.out]; exact hx0), ← HC.out]; exact HI2.out
        · rw [HZ3.out]; exact HK.out.1
        · rw [HZ3.out]; exact HK.out.2
  case done =>
    rintro W hi hK
    obtain ⟨⟨_, c1, _⟩, _⟩ := hi.cells
    have hfin := hi.done (.deferred none)
    obtain ⟨c, hc⟩ : ∃ c, c = Pg.allN q R ⟨ev, bits⟩ L.length := ⟨_, rfl⟩
    rw [← hc] at c1
    have HC : Hid (c = Pg.allN q R ⟨ev, bits⟩ L.length) := hc
    have HF : Hid _ := hfin
    have HZ3 : Hid (W3.heap.size = w1.heap.size + 3) := hz3
    clear hc hi hfin hs0 hW3
    by_cases h0 : c = 0
    · have hz : ((c : Int) == 0) = true := by rw [beq_iff_eq]; omega
      have E : Hid (Pg.allE c = 60) := if_pos h0
      gi_wp2
      refine ⟨by simp, .inl ⟨_, _, rfl, run_takeDeferred hK, ?_⟩⟩
      refine ⟨_, results_tmp2 (fn := Tryz.f22) rfl _ _ _, ?_⟩
      rw [HZ3.out, ← HC.out, E.out]
      exact ⟨by subst h0; rfl, HF.out⟩
    · have hz : ((c : Int) == 0) = false := by rw [beq_eq_false_iff_ne]; omega
      have E : Hid (Pg.allE c = 0) := if_neg h0
      gi_wp2
      refine ⟨by simp, .inl ⟨_, _, rfl, run_takeDeferred hK, ?_⟩⟩
      refine ⟨_, results_tmp2 (fn := Tryz.f22) rfl _ _ _, ?_⟩
      rw [HZ3.out, ← HC.out, E.out]
      exact ⟨rfl, HF.out⟩

/-- All of the program, of any page -/
theorem all_does (X : PgSays) : AllDoes 22 drvT 39 := by
  intro w B m T h ri o n hon hro a cap L hrow rp R hT q hq hR hl p hev
  by_cases hb : p.bits.size = 8
  · rw [show Pg.allA p (Pg.allN q R p L.length) = (Pg.allN q R p L.length, Pg.allE (Pg.allN q R p L.length)) from if_pos hb]
    exact all11_good X h ri o n hon hro a cap L hrow rp R hT q hq hR hl p.ev hev p.bits hb
  · rw [show Pg.allA p (Pg.allN q R p L.length) = (0, 1) from if_neg hb]
    refine (all11_bad X a L.length cap p.ev hev p.bits hb).mono ?_
    rintro e w' ⟨rfl, hbl⟩
    exact ⟨rfl, (h.below hbl).congr fun k _ => (spread_same (fun i hi => by rw [hT i hi, Pg.allD_bad hb]) k).symm, Only.of_below hbl _⟩
end Go.Proofs.YtlcoibfpebggoaaGreatDoor

namespace Go.Proofs.YtlcoibfpebggoaaGreatDoor
open Go.RowKit

theorem cell_same {w w' : World} {b : Nat} (h : w'.heap[b]? = w.heap[b]?) (j : Nat) : w'.cell? ⟨b, j, none⟩ = w.cell? ⟨b, j, none⟩ ∧ w'.frozen? ⟨b, j, none⟩ = w.frozen? ⟨b, j, none⟩ := by
  unfold World.cell? World.frozen?
  dsimp only
  rw [h]
  exact ⟨rfl, rfl⟩
theorem rowU.same {w w' : World} {b : Nat} {l : List UInt8} (h : rowU w b l) (e : w'.heap[b]? = w.heap[b]?) : rowU w' b l := fun j hj => by
  rw [(cell_same e j).1, (cell_same e j).2]; exact h j hj

set_option maxRecDepth 100000 in
set_option maxHeartbeats 2000000 in
theorem join1_any (b6 b7 : Nat) (hne : b6 ≠ b7) (A : List UInt8) (hA : A.length = 8) (pe : Nat) (xb : ByteArray) (hx : xb.size = 8) (f0 : Bool) (w : World) (hr : rowU w b6 A) (h6 : b6 < w.heap.size) (h7 : w.cell? ⟨b7, 0, none⟩ = some (.bool f0)) (f7 : w.frozen? ⟨b7, 0, none⟩ = false) :
    Calls Tryz.prog 50 #[.agg #[.int .u64 (pe : Int), .string xb], .pointer (some ⟨b7, 0, none⟩), .pointer (some ⟨b6, 0, none⟩)] w fun e w' => (∃ v, e = .returned v) ∧ rowU w' b6 (Pg.orL A xb.data.toList) ∧ (w'.cell? ⟨b7, 0, none⟩ = some (.bool true) ∧ w'.frozen? ⟨b7, 0, none⟩ = false) ∧ Only (fun k => k = b6 ∨ k = b7) w w' := by
  have h7l := World.block_lt_of_cell? w _ h7
  have hX8 : xb.data.toList.length = 8 := by rw [Pg.list_size]; exact hx
  have hmx : Tryz.prog.follows .mixedOrders = true := by kernel_rfl
  obtain ⟨w1, hw1⟩ : ∃ w1, w1 = (w.alloc (.cells #[.int .u64 (pe : Int), .string xb] 24)).setCell ⟨b7, 0, none⟩ (.bool true) := ⟨_, rfl⟩
  have ha : Below w.heap.size w (w.alloc (.cells #[.int .u64 (pe : Int), .string xb] 24)) := (Below.refl _ w).alloc (Nat.le_refl _) _
  have d7 : (w.alloc (.cells #[.int .u64 (pe : Int), .string xb] 24)).cell? ⟨b7, 0, none⟩ = some (.bool f0) := (ha.cell (p := ⟨b7, 0, none⟩) h7l).trans h7
  have g7 : (w.alloc (.cells #[.int .u64 (pe : Int), .string xb] 24)).frozen? ⟨b7, 0, none⟩ = false := (ha.frozen (p := ⟨b7, 0, none⟩) h7l).trans f7
  have e6 : w1.heap[b6]? = w.heap[b6]? := by rw [hw1, heap_setCell_other _ _ _ _ hne]; exact ha.block b6 h6
  have k7 : w1.cell? ⟨b7, 0, none⟩ = some (.bool true) := by rw [hw1]; exact World.cell?_setCell_same _ _ _ d7
  have l7 : w1.frozen? ⟨b7, 0, none⟩ = false := by rw [hw1, World.frozen?_setCell]; exact g7
  have kp : w1.cell? ⟨w.heap.size, 1, none⟩ = some (.string xb) := by
    rw [hw1, World.cell?_setCell_other _ _ _ _ (fun e => by injection e with e1; omega)]; exact World.cell?_alloc_mark w _ _ (0, 0) 1
  have ho1 : Only (fun k => k = b6 ∨ k = b7) w w1 := by rw [hw1]; exact (Only.alloc _ _ _).then (Only.setCell _ _ _ _ (.inr rfl))
  have hs1 : w.heap.size < w1.heap.size := by rw [hw1]; simp [World.setCell]
  have R0 : Hid (rowU w1 b6 A) := hr.same e6
  have K7 : Hid (w1.cell? ⟨b7, 0, none⟩ = some (.bool true) ∧ w1.frozen? ⟨b7, 0, none⟩ = false) := ⟨k7, l7⟩
  have KP : Hid (w1.cell? ⟨w.heap.size, 1, none⟩ = some (.string xb)) := kp
  have O1 : Hid (Only (fun k => k = b6 ∨ k = b7) w w1) := ho1
  have HA8 : Hid (A.length = 8) := hA
  have HX8 : Hid (xb.data.toList.length = 8) := hX8
  have HS8 : Hid (xb.size = 8) := hx
  have HN : Hid (b6 ≠ b7) := hne
  have H6 : Hid (b6 < w.heap.size) := h6
  have HMX : Hid (Tryz.prog.follows .mixedOrders = true) := hmx
  clear hr h6 h7 f7 h7l hX8 ha e6 k7 l7 kp ho1 hA hx hne hmx hs1
  go_enter Tryz.func50, Tryz.ntmps50
  go_wp2
  rw [← hw1]
  clear hw1 d7 g7
  go_loopg [5] 8 (fun g2 k wz => ∃ t : Nat, t ≤ 8 ∧ g2 = 8 - t ∧ k = .int .i64 (t : Int) ∧ rowU wz b6 (Pg.orK A xb.data.toList t) ∧ wz.cell? ⟨w.heap.size, 1, none⟩ = some (.string xb) ∧ (wz.cell? ⟨b7, 0, none⟩ = some (.bool true) ∧ wz.frozen? ⟨b7, 0, none⟩ = false) ∧ Only (fun k => k = b6 ∨ k = b7) w wz)
  case atStart => exact ⟨0, Nat.zero_le _, rfl, rfl, by rw [Pg.orK_zero]; exact R0.out, KP.out, K7.out, O1.out⟩
  case round =>
    obtain ⟨t, ht, rfl, rfl, hrr, hpp, h77, hoz⟩ := hrel
    have HRR : Hid (rowU wr b6 (Pg.orK A xb.data.toList t)) := hrr
    have H77 : Hid (wr.cell? ⟨b7, 0, none⟩ = some (.bool true) ∧ wr.frozen? ⟨b7, 0, none⟩ = false) := h77
    have HOZ : Hid (Only (fun k => k = b6 ∨ k = b7) w wr) := hoz
    by_cases ht8 : t < 8
    · obtain ⟨rc, rf⟩ := hrr t (by rw [Pg.orK_length HA8.out HX8.out ht]; exact ht8)
      rw [Pg.orK_at HA8.out HX8.out ht8] at rc
      obtain ⟨y, hy⟩ : ∃ y, y = A.getD t 0 := ⟨_, rfl⟩
      rw [← hy] at rc
      have htx : t < xb.size := by rw [HS8.out]; exact ht8
      have hti : (t : Int) < (xb.size : Int) := by omega
      have hbt := Pg.byt11_at xb t htx
      obtain ⟨u, hu⟩ : ∃ u, u = xb[t]'htx := ⟨_, rfl⟩
      have hor := Pg.u8_or y u
      have HYU : Hid (y = A.getD t 0 ∧ u = xb.data.toList.getD t 0) := ⟨hy, by rw [hu, hbt]; rfl⟩
      rw [hu] at hor
      have ht8i : (t : Int) < 8 := by omega
      have HHU : Hid (u = xb[t]'htx) := hu
      have HPP : Hid (wr.cell? ⟨w.heap.size, 1, none⟩ = some (.string xb)) := hpp
      clear hy hbt hoz h77 hrr hu
      go_wp2_with fail
      have n1 : b6 ≠ w.heap.size := by have := H6.out; omega
      refine wp_region_held (S := fun W => W.cell? ⟨w.heap.size, 1, none⟩ = some (.string xb)) HMX.out ?_
      have hS : (fun W : World => W.cell? ⟨w.heap.size, 1, none⟩ = some (.string xb)) wr.drew := hpp
      change wpAnyH _ _ _ _ _ _ _ _ wr.drew
      refine held_quiet 0 (v := ?v0q1) rfl (by kernel_rfl) (fun _ _ _ h => h) (by assumption) rfl ?hy0q1 ?rest0q1
      case hy0q1 => (intro wS hSw; (try dsimp only at hSw); go_simp; try with_reducible rfl)
      try simp only [Act.put, List.setIfInBounds_toArray, List.set_cons_zero, List.set_cons_succ]
      refine held_quiet 1 (v := ?v1q2) rfl (by kernel_rfl) (fun _ _ _ h => h) (by assumption) rfl ?hy1q2 ?rest1q2
      case hy1q2 => (intro wS hSw; (try dsimp only at hSw); go_simp; try with_reducible rfl)
      try simp only [Act.put, List.setIfInBounds_toArray, List.set_cons_zero, List.set_cons_succ]
      refine held_quiet 3 (v := ?v3q3) rfl (by kernel_rfl) (fun _ _ _ h => h) (by assumption) rfl ?hy3q3 ?rest3q3
      case hy3q3 => (intro wS hSw; (try dsimp only at hSw); go_simp; try with_reducible rfl)
      try simp only [Act.put, List.setIfInBounds_toArray, List.set_cons_zero, List.set_cons_succ]
      refine held_quiet 4 (v := ?v4q4) rfl (by kernel_rfl) (fun _ _ _ h => h) (by assumption) rfl ?hy4q4 ?rest4q4
      case hy4q4 => (intro wS hSw; (try dsimp only at hSw); go_simp; try with_reducible rfl)
      try simp only [Act.put, List.setIfInBounds_toArray, List.set_cons_zero, List.set_cons_succ]
      refine held_quiet 5 (v := ?v5q5) rfl (by kernel_rfl) (fun _ _ _ h => h) (by assumption) rfl ?hy5q5 ?rest5q5
      case hy5q5 => (intro wS hSw; (try dsimp only at hSw); go_simp; try with_reducible rfl)
      try simp only [Act.put, List.setIfInBounds_toArray, List.set_cons_zero, List.set_cons_succ]
      refine held_quiet 6 (v := ?v6q6) rfl (by kernel_rfl) (fun _ _ _ h => h) (by assumption) rfl ?hy6q6 ?rest6q6
      case hy6q6 => (intro wS hSw; (try dsimp only at hSw); go_simp; try with_reducible rfl)
      try simp only [Act.put, List.setIfInBounds_toArray, List.set_cons_zero, List.set_cons_succ]
      refine held_one 2 rfl (by kernel_rfl) ?_
      go_wp2
      try refine ⟨hS, ?_⟩
      refine held_quiet 7 (v := ?v7q7) rfl (by kernel_rfl) (fun _ _ _ h => h) (by assumption) rfl ?hy7q7 ?rest7q7
      case hy7q7 => (intro wS hSw; (try dsimp only at hSw); go_simp; try with_reducible rfl)
      try simp only [Act.put, List.setIfInBounds_toArray, List.set_cons_zero, List.set_cons_succ]
      refine held_quiet 8 (v := ?v8q8) rfl (by kernel_rfl) (fun _ _ _ h => h) (by assumption) rfl ?hy8q8 ?rest8q8
      case hy8q8 => (intro wS hSw; (try dsimp only at hSw); go_simp; try with_reducible rfl)
      try simp only [Act.put, List.setIfInBounds_toArray, List.set_cons_zero, List.set_cons_succ]
      refine held_one 9 rfl (by kernel_rfl) ?_
      go_wp2
      try refine ⟨(World.cell?_setCell_other _ _ _ _ (fun e => by injection e with e1; exact n1 e1)).trans hpp, ?_⟩
      refine held_done (by kernel_rfl) ?_
      go_wp2
      go_roundg (8 - (t + 1))
      case measure => omega
      case rel =>
        refine ⟨t + 1, by omega, rfl, by go_num, ?_, ?_, ⟨?_, ?_⟩, ?_⟩
        · have h2 := (HRR.out.set t (by rw [Pg.orK_length HA8.out HX8.out ht]; exact ht8) (y ||| u)).drew
          rw [HYU.out.1, HYU.out.2, Pg.orK_next HA8.out HX8.out ht8] at h2
          rw [← HHU.out, HYU.out.1, HYU.out.2]
          exact h2
        · exact (World.cell?_setCell_other _ _ _ _ (fun e => by injection e with e1; exact n1 e1)).trans HPP.out
        · exact (World.cell?_setCell_other _ _ _ _ (fun e => by injection e with e1; exact HN.out e1)).trans H77.out.1
        · exact (World.frozen?_setCell _ _ _ _).trans H77.out.2
        · exact HOZ.out.then ((Only.setCell (fun k => k = b6 ∨ k = b7) wr ⟨b6, t, none⟩ _ (.inl rfl)).then (Only.drew _ _))
    · have ht8' : t = 8 := by omega
      subst ht8'
      have hq8 := Pg.orK_all HA8.out HX8.out
      have HRF : Hid (rowU wr b6 (Pg.orL A xb.data.toList)) := by
        show rowU _ _ _
        rw [← hq8]; exact HRR.out
      clear hq8 hrr hoz h77 hpp ht8
      go_wp2
      go_end0
      exact ⟨⟨_, rfl⟩, HRF.out, H77.out, HOZ.out⟩
end Go.Proofs.YtlcoibfpebggoaaGreatDoor

namespace Go.Proofs.YtlcoibfpebggoaaGreatDoor
open Go.RowKit Go.Shelf
attribute [local go_sem] Oper.semAt_some

/-- what stands in memory while Join goes through its drives -/
structure joinI (w : World) (v : Nat) (x : Value) (A : List UInt8) (f : Bool) (W : World) : Prop where
  below : Below w.heap.size w W
  size : w.heap.size + 5 ≤ W.heap.size
  from_ : W.cell? ⟨w.heap.size, 0, none⟩ = some (.int .u64 (v : Int))
  bits : rowU W (w.heap.size + 1) A
  found : W.cell? ⟨w.heap.size + 1 + 1, 0, none⟩ = some (.bool f) ∧ W.frozen? ⟨w.heap.size + 1 + 1, 0, none⟩ = false
  join : W.cell? ⟨w.heap.size + 1 + 1 + 1, 0, none⟩ = some (.func (.func 50) #[] #[.pointer (some ⟨w.heap.size + 1 + 1, 0, none⟩), .pointer (some ⟨w.heap.size + 1, 0, none⟩)])
  list : W.cell? ⟨w.heap.size + 1 + 1 + 1 + 1, 0, none⟩ = some x
section
variable {w W : World} {v : Nat} {x : Value} {A : List UInt8} {f : Bool}
/-- what turns none of the call's own blocks -/
theorem joinI.same {W' : World} (h : joinI w v x A f W) (hb : Below w.heap.size W W') (e : ∀ k, w.heap.size ≤ k → k < w.heap.size + 5 → W'.heap[k]? = W.heap[k]?) : joinI w v x A f W' := by
  have c : ∀ k, w.heap.size ≤ k → k < w.heap.size + 5 → W'.cell? ⟨k, 0, none⟩ = W.cell? ⟨k, 0, none⟩ := fun k h1 h2 => (cell_same (e k h1 h2) 0).1
  exact ⟨h.below.trans hb, Nat.le_trans h.size hb.size, (c _ (by omega) (by omega)).trans h.from_, h.bits.same (e _ (by omega) (by omega)), ⟨(c _ (by omega) (by omega)).trans h.found.1, (cell_same (e _ (by omega) (by omega)) 0).2.trans h.found.2⟩, (c _ (by omega) (by omega)).trans h.join, (c _ (by omega) (by omega)).trans h.list⟩
theorem joinI.later {W' : World} (h : joinI w v x A f W) (hb : Below W.heap.size W W') : joinI w v x A f W' :=
  h.same (hb.mono (by have := h.size; omega)) (fun k _ h2 => hb.block k (by have := h.size; omega))
theorem joinI.put (h : joinI w v x A f W) {k : Nat} (hk : w.heap.size + 5 ≤ k) (o : Obj) : joinI w v x A f (W.putObj k o) :=
  h.same (below_put o (by omega)) (fun j _ h2 => World.putObj_heap_other (by omega))
/-- a page is joined -/
theorem joinI.call (h : joinI w v x A f W) (hA : A.length = 8) (pe : Nat) (xb : ByteArray) (hx : xb.size = 8) :
    Calls Tryz.prog 50 #[.agg #[.int .u64 (pe : Int), .string xb], .pointer (some ⟨w.heap.size + 1 + 1, 0, none⟩), .pointer (some ⟨w.heap.size + 1, 0, none⟩)] W fun e W' => (∃ u, e = .returned u) ∧ joinI w v x (Pg.orL A xb.data.toList) true W' ∧ ∀ k, w.heap.size + 5 ≤ k → k < W.heap.size → W'.heap[k]? = W.heap[k]? := by
  refine (join1_any (w.heap.size + 1) (w.heap.size + 1 + 1) (by omega) A hA pe xb hx f W h.bits (by have := h.size; omega) h.found.1 h.found.2).mono ?_
  rintro e W' ⟨he, hr, hf, ho⟩
  have e5 : ∀ k, k < W.heap.size → k ≠ w.heap.size + 1 → k ≠ w.heap.size + 1 + 1 → W'.heap[k]? = W.heap[k]? := fun k h1 h2 h3 => ho.block k h1 (fun hk => hk.elim h2 h3)
  have hs := h.size
  have c : ∀ k, k < W.heap.size → k ≠ w.heap.size + 1 → k ≠ w.heap.size + 1 + 1 → W'.cell? ⟨k, 0, none⟩ = W.cell? ⟨k, 0, none⟩ := fun k h1 h2 h3 => (cell_same (e5 k h1 h2 h3) 0).1
  exact ⟨he, ⟨h.below.trans (ho.below (fun k hk => by rcases hk with rfl | rfl <;> omega) (by omega)), Nat.le_trans hs ho.size, (c _ (by omega) (by omega) (by omega)).trans h.from_, hr, hf, (c _ (by omega) (by omega) (by omega)).trans h.join, (c _ (by omega) (by omega) (by omega)).trans h.list⟩,
    fun k h1 h2 => e5 k h2 (by omega) (by omega)⟩
end
theorem joinI.start (w : World) (v : Nat) (x : Value) : joinI w v x (List.replicate 8 0) false (((((w.alloc (.cells #[.int .u64 (v : Int)] 22)).alloc (.cells #[.int .u8 0, .int .u8 0, .int .u8 0, .int .u8 0, .int .u8 0, .int .u8 0, .int .u8 0, .int .u8 0] 89)).alloc (.cells #[.bool false] 4)).alloc (.cells #[.func (.func 50) #[] #[.pointer (some ⟨w.heap.size + 1 + 1, 0, none⟩), .pointer (some ⟨w.heap.size + 1, 0, none⟩)]] 90)).alloc (.cells #[x] 37)) := by
  have al : ∀ (X : World) (o : Obj), Below X.heap.size X (X.alloc o) := fun X o => (Below.refl _ X).alloc (Nat.le_refl _) o
  obtain ⟨w1, h1⟩ : ∃ w1, w1 = w.alloc (.cells #[.int .u64 (v : Int)] 22) := ⟨_, rfl⟩
  obtain ⟨w2, h2⟩ : ∃ w2, w2 = w1.alloc (.cells #[.int .u8 0, .int .u8 0, .int .u8 0, .int .u8 0, .int .u8 0, .int .u8 0, .int .u8 0, .int .u8 0] 89) := ⟨_, rfl⟩
  obtain ⟨w3, h3⟩ : ∃ w3, w3 = w2.alloc (.cells #[.bool false] 4) := ⟨_, rfl⟩
  obtain ⟨w4, h4⟩ : ∃ w4, w4 = w3.alloc (.cells #[.func (.func 50) #[] #[.pointer (some ⟨w.heap.size + 1 + 1, 0, none⟩), .pointer (some ⟨w.heap.size + 1, 0, none⟩)]] 90) := ⟨_, rfl⟩
  obtain ⟨w5, h5⟩ : ∃ w5, w5 = w4.alloc (.cells #[x] 37) := ⟨_, rfl⟩
  rw [← h1, ← h2, ← h3, ← h4, ← h5]
  have s1 : w1.heap.size = w.heap.size + 1 := by rw [h1]; simp
  have s2 : w2.heap.size = w.heap.size + 1 + 1 := by rw [h2, World.size_alloc, s1]
  have s3 : w3.heap.size = w.heap.size + 1 + 1 + 1 := by rw [h3, World.size_alloc, s2]
  have s4 : w4.heap.size = w.heap.size + 1 + 1 + 1 + 1 := by rw [h4, World.size_alloc, s3]
  have s5 : w5.heap.size = w.heap.size + 5 := by rw [h5, World.size_alloc, s4]
  have b1 : Below w.heap.size w w1 := by rw [h1]; exact al _ _
  have b2 : Below w1.heap.size w1 w2 := by rw [h2]; exact al _ _
  have b3 : Below w2.heap.size w2 w3 := by rw [h3]; exact al _ _
  have b4 : Below w3.heap.size w3 w4 := by rw [h4]; exact al _ _
  have b5 : Below w4.heap.size w4 w5 := by rw [h5]; exact al _ _
  have b45 := b4.trans (b5.mono (by omega))
  have b35 := b3.trans (b45.mono (by omega))
  have b25 := b2.trans (b35.mono (by omega))
  have n1 : w1.cell? ⟨w.heap.size, 0, none⟩ = some (.int .u64 (v : Int)) := by rw [h1]; exact World.cell?_alloc_mark w _ _ (0, 0) 0
  have n3 : w3.cell? ⟨w2.heap.size, 0, none⟩ = some (.bool false) := by rw [h3]; exact World.cell?_alloc_mark w2 _ _ (0, 0) 0
  have f3 : w3.frozen? ⟨w2.heap.size, 0, none⟩ = false := by rw [h3, World.frozen?_alloc_mark]; simp
  have n4 : w4.cell? ⟨w3.heap.size, 0, none⟩ = some (.func (.func 50) #[] #[.pointer (some ⟨w.heap.size + 1 + 1, 0, none⟩), .pointer (some ⟨w.heap.size + 1, 0, none⟩)]) := by rw [h4]; exact World.cell?_alloc_mark w3 _ _ (0, 0) 0
  have n5 : w5.cell? ⟨w4.heap.size, 0, none⟩ = some x := by rw [h5]; exact World.cell?_alloc_mark w4 _ _ (0, 0) 0
  have n2 : rowU w2 w1.heap.size (List.replicate 8 0) := by
    rw [h2]
    intro j hj
    constructor
    · rw [World.cell?_alloc_mark]
      have : j < 8 := by simpa using hj
      match j, this with
      | 0, _ => rfl
      | 1, _ => rfl
      | 2, _ => rfl
      | 3, _ => rfl
      | 4, _ => rfl
      | 5, _ => rfl
      | 6, _ => rfl
      | 7, _ => rfl
    · rw [World.frozen?_alloc_mark]; simp
  rw [s1] at n2
  rw [s2] at n3 f3
  rw [s3] at n4
  rw [s4] at n5
  exact ⟨b1.trans (b25.mono (by omega)), by omega, (b25.cell (p := ⟨w.heap.size, 0, none⟩) (by show w.heap.size < _; omega)).trans n1, n2.below b35 (by omega), ⟨(b45.cell (p := ⟨w.heap.size + 1 + 1, 0, none⟩) (by show w.heap.size + 1 + 1 < _; omega)).trans n3, (b45.frozen (p := ⟨w.heap.size + 1 + 1, 0, none⟩) (by show w.heap.size + 1 + 1 < _; omega)).trans f3⟩, (b5.cell (p := ⟨w.heap.size + 1 + 1 + 1, 0, none⟩) (by show w.heap.size + 1 + 1 + 1 < _; omega)).trans n4, n5⟩

set_option maxRecDepth 100000 in
set_option maxHeartbeats 4000000 in
theorem join_does (X : PgSays) : JoinDoes 27 drvT 39 := by
  intro w B m T h ri o n hon hro a cap L hrow rp R hT q hq hR hl v hv
  have HM : Hid (Many w B m T) := h
  have HQ : Hid (Listed L q n rp) := hq
  have HR : Hid (∀ i, i < n → (R i).goes = false) := hR
  have HT : Hid (∀ i, i < n → T (o + i) = drvT (rp i) (R i)) := hT
  have HRow : Hid (T ri = rowT 39 (.slice a L.length cap) L) := hrow
  have HO : Hid (o + n ≤ m ∧ ri < o) := ⟨hon, hro⟩
  have Hl : Hid (L.length ≤ 1000) := hl
  have hit : ∀ j, j < L.length → L[j]? = some (.pointer none) ∨ ∃ r, L[j]? = some (.pointer (some ⟨r, 0, none⟩)) := fun j hj => (hq j hj).imp (·.2) (fun ⟨i, _, _, h⟩ => ⟨_, h⟩)
  have HI : Hid _ := hit
  have HV : Hid (v < 18446744073709551616) := hv
  clear h hq hR hT hrow hon hro hl hit hv
  refine (callsIn_wide (n := 3)).1 ?_
  refine callsIn_of_wp_marks Tryz.func27 rfl trivial ?_ rfl
  simp only [Tryz.ntmps27, List.size_toArray, List.length_cons, List.length_nil, Nat.reduceAdd, Nat.reduceSub, Array.replicate_succ, Array.replicate_zero, List.push_toArray, List.append_toArray, List.nil_append, List.cons_append]
  gi_wp2_with fail
  refine ⟨trivial, (callsIn_wide.2 (drives_any a L.length cap _)).mono ?_⟩
  rintro e w' ⟨rfl, rfl⟩
  gi_wp2_with fail
  obtain ⟨W3, hW3⟩ : ∃ W3, W3 = ((((w.alloc (.cells #[.int .u64 (v : Int)] 22)).alloc (.cells #[.int .u8 0, .int .u8 0, .int .u8 0, .int .u8 0, .int .u8 0, .int .u8 0, .int .u8 0, .int .u8 0] 89)).alloc (.cells #[.bool false] 4)).alloc (.cells #[.func (.func 50) #[] #[.pointer (some ⟨w.heap.size + 1 + 1, 0, none⟩), .pointer (some ⟨w.heap.size + 1, 0, none⟩)]] 90)).alloc (.cells #[.slice a L.length cap] 37) := ⟨_, rfl⟩
  have hz3 : W3.heap.size = w.heap.size + 5 := by rw [hW3]; simp
  have hi3 : joinI w v (.slice a L.length cap) (Pg.joinL q R v 0) (Pg.joinB q R v 0) W3 := by
    rw [hW3]; exact joinI.start w v _
  rw [← hW3]
  refine' range_each rfl (by decide) (gf := 74) (lb := #[.pointer (some ⟨w.heap.size + 1 + 1 + 1 + 1, 0, none⟩)]) rfl trivial (enters_of Tryz.func74 (by kernel_rfl) rfl)
    (drives_stops Fence.wide (3 - 1) trivial rfl (by decide) (w.heap.size + 1 + 1 + 1 + 1) a cap L Hl.out HI.out)
    (fun j W => joinI w v (.slice a L.length cap) (Pg.joinL q R v j) (Pg.joinB q R v j) W)
    ?reads (fun j A A' h hb => h.later hb) ?skip (fun j A r r' h _ => by rw [hz3]; exact h.put (by omega) _) ?start _ ?assign ?body ?done
  case reads =>
    intro j W h
    refine ⟨h.list, fun k u hk => ?_⟩
    obtain ⟨F, hF, _⟩ := (HM.out.below h.below).look (i := ri) (by have := HO.out; omega)
    rw [HRow.out] at hF
    obtain ⟨g, cp, hv, hc⟩ := rowT_at hF hk
    injection hv with hv1 _ _
    exact ⟨g, hv1, hc⟩
  case skip =>
    intro j A hj h
    have hlt := (List.getElem?_eq_some_iff.1 hj).1
    rcases HQ.out j hlt with ⟨h0, _⟩ | ⟨i, _, _, h1⟩
    · rw [(Pg.join_none h0 R v).1, (Pg.join_none h0 R v).2]; exact h
    · rw [hj] at h1; cases h1
  case start =>
    intro r
    exact hi3.later (((Below.refl _ W3).alloc (Nat.le_refl _) _).alloc (by simp) _)
  case assign =>
    intro l u W K hK
    gi_wp2
    exact hK
  case body =>
    rintro j u W hj hu hi ⟨r, hr⟩ hk
    have hlt := (List.getElem?_eq_some_iff.1 hj).1
    rcases HQ.out j hlt with ⟨_, h0⟩ | ⟨i, hin, hqj, h1⟩
    · rw [hj] at h0; cases h0; exact absurd rfl hu
    · rw [hj] at h1; cases h1
      have hkl := (Array.getElem?_eq_some_iff.1 hk).1
      have hrl := (Array.getElem?_eq_some_iff.1 hr).1
      obtain ⟨F2, hF2, _⟩ := (HM.out.below hi.below).look (i := o + i) (by have := HO.out; omega)
      rw [HT.out i hin] at hF2
      have hC := load11_any X (D := R i) hF2
      obtain ⟨x, hx⟩ : ∃ x, x = (R i).pgE := ⟨_, rfl⟩
      obtain ⟨P, hP⟩ : ∃ P, P = (R i).pgS := ⟨_, rfl⟩
      have hcnt : Pg.counts (R i) v = (x == 0 && decide (v ≤ P.ev)) := by rw [hx, hP]; rfl
      have hps : x = 0 → P.bits.size = 8 := fun e => by rw [hP]; exact Dr.pgS_size (by rw [← hx]; exact e)
      rw [← hx, ← hP] at hC
      have hN := fun (e : Pg.counts (R i) v = false) => Pg.join_no hqj e
      have hY := fun (e : Pg.counts (R i) v = true) => Pg.join_yes hqj e
      rw [← hP] at hY
      rw [hcnt] at hN hY
      obtain ⟨xe, xb⟩ := P
      unfold pgV at hC
      dsimp only at hN hY hps hC
      have HIv : Hid (joinI w v (.slice a L.length cap) (Pg.joinL q R v j) (Pg.joinB q R v j) W) := hi
      have HZ3 : Hid (W3.heap.size = w.heap.size + 5) := hz3
      have HK : Hid (W3.heap.size < W.heap.size ∧ W3.heap.size + 1 < W.heap.size) := ⟨hkl, hrl⟩
      have HPS : Hid _ := hps
      have HNo : Hid _ := hN
      have HYs : Hid _ := hY
      clear hi hr hk hqj hlt hj hu hi3 hW3 hkl hrl hF2 hx hP hcnt hps hN hY
      gi_wp2_with fail
      refine ⟨trivial, (CallsIn.inRound _ (callsIn_wide.2 hC)).mono ?_⟩
      rintro e W2 ⟨rfl, b2⟩
      clear hC
      have b3 : Below W.heap.size W (W2.alloc (.cells #[.int .u64 (xe : Int), .string xb] 24)) := b2.alloc b2.size _
      have i3 := HIv.out.later b3
      have c0 := i3.from_
      have c4 := i3.join
      have p0 : (W2.alloc (.cells #[.int .u64 (xe : Int), .string xb] 24)).cell? ⟨W2.heap.size, 0, none⟩ = some (.int .u64 (xe : Int)) := World.cell?_alloc_mark W2 _ _ (0, 0) 0
      have p1 : (W2.alloc (.cells #[.int .u64 (xe : Int), .string xb] 24)).cell? ⟨W2.heap.size, 1, none⟩ = some (.string xb) := World.cell?_alloc_mark W2 _ _ (0, 0) 1
      have B3 : Hid (∀ k, k < W.heap.size → (W2.alloc (.cells #[.int .u64 (xe : Int), .string xb] 24)).heap[k]? = W.heap[k]?) := fun k hk => b3.block k hk
      have S3 : Hid (W.heap.size ≤ (W2.alloc (.cells #[.int .u64 (xe : Int), .string xb] 24)).heap.size) := b3.size
      have I3 : Hid (joinI w v (.slice a L.length cap) (Pg.joinL q R v j) (Pg.joinB q R v j) (W2.alloc (.cells #[.int .u64 (xe : Int), .string xb] 24))) := i3
      by_cases hx0 : x = 0
      · have hz : ((x : Int) == 0) = true := by rw [beq_iff_eq]; omega
        by_cases hve : v ≤ xe
        · have hge : ¬ (xe : Int) < (v : Int) := by omega
          have hge2 : (v : Int) ≤ (xe : Int) := by omega
          have HJ : Hid _ := HYs.out (by rw [hx0]; simpa using hve)
          have hc := i3.call (Pg.joinL_length q R v j) xe xb (HPS.out hx0)
          clear b2 b3 i3 hx0 hve
          gi_wp2_with fail
          refine ⟨trivial, (CallsIn.inRound _ (callsIn_wide.2 hc)).mono ?_⟩
          rintro e W4 ⟨⟨_, rfl⟩, i4, e4⟩
          have I4 : Hid (joinI w v (.slice a L.length cap) (Pg.orL (Pg.joinL q R v j) xb.data.toList) true W4) := i4
          have E4 : Hid (∀ k, w.heap.size + 5 ≤ k → k < (W2.alloc (.cells #[.int .u64 (xe : Int), .string xb] 24)).heap.size → W4.heap[k]? = (W2.alloc (.cells #[.int .u64 (xe : Int), .string xb] 24)).heap[k]?) := e4
          clear i4 e4 hc
          gi_wp2
          have hK0 := HK.out
          have hS0 := S3.out
          rw [HZ3.out] at hK0
          refine ⟨?_, ?_, ?_⟩
          · rw [HJ.out.1, HJ.out.2]; exact I4.out
          · rw [HZ3.out]; exact (E4.out _ (by omega) (by omega)).trans (B3.out _ hK0.1)
          · rw [HZ3.out]; exact (E4.out _ (by omega) (by omega)).trans (B3.out _ hK0.2)
        · have hge : (xe : Int) < (v : Int) := by omega
          have HJ : Hid _ := HNo.out (by simp; intro _; omega)
          clear b2 b3 i3 hx0 hve
          gi_wp2
          refine ⟨?_, ?_, ?_⟩
          · rw [HJ.out.1, HJ.out.2]; exact I3.out
          · exact B3.out _ HK.out.1
          · exact B3.out _ HK.out.2
      · have hz : ((x : Int) == 0) = false := by rw [beq_eq_false_iff_ne]; omega
        have HJ : Hid _ := HNo.out (by simp; intro e; exact absurd e hx0)
        clear b2 b3 i3 hx0
        gi_wp2
        refine ⟨?_, ?_, ?_⟩
        · rw [HJ.out.1, HJ.out.2]; exact I3.out
        · exact B3.out _ HK.out.1
        · exact B3.out _ HK.out.2
  case done =>
    rintro W hi hK
    have hl8 := Pg.joinL_length q R v L.length
    have hcv := fun k => (hi.bits.below (below_drewN (Below.refl W.heap.size W) k) (by have := hi.size; omega)).back (P := Tryz.prog) 91 9 5 8 8 hl8 Tryz.underlying91 Tryz.underlying5 Tryz.underlying9
    obtain ⟨z, hz⟩ : ∃ z : ByteArray, z = ⟨(Pg.joinL q R v L.length).toArray⟩ := ⟨_, rfl⟩
    obtain ⟨f, hf⟩ : ∃ f, f = Pg.joinB q R v L.length := ⟨_, rfl⟩
    have hfd := hi.found.1
    rw [← hz] at hcv
    rw [← hf] at hfd
    have HIv : Hid (joinI w v (.slice a L.length cap) (Pg.joinL q R v L.length) (Pg.joinB q R v L.length) W) := hi
    have HZz : Hid (z = ⟨(Pg.joinL q R v L.length).toArray⟩ ∧ f = Pg.joinB q R v L.length) := ⟨hz, hf⟩
    have HZ3 : Hid (W3.heap.size = w.heap.size + 5) := hz3
    clear hi hl8 hz hf hi3 hW3
    gi_wp2_with fail
    refine wpIn_wide.2 ?_
    go_quiet (fail)
    rename_i nq
    have hdr := below_drewN (Below.refl W.heap.size W) nq
    have hK2 := (hdr.block _ (Array.getElem?_eq_some_iff.1 hK).1).trans hK
    have HIr : Hid (joinI w v (.slice a L.length cap) (Pg.joinL q R v L.length) (Pg.joinB q R v L.length) (W.drewN nq)) := HIv.out.later hdr
    clear hdr hK hcv hfd
    gi_wp2
    refine ⟨by simp, .inl ⟨_, _, rfl, run_takeDeferred hK2, ?_⟩⟩
    refine ⟨_, results_tmp2 (fn := Tryz.f27) rfl _ _ _, ?_⟩
    rw [HZ3.out]
    exact ⟨by rw [← HZz.out.1, ← HZz.out.2]; rfl, (HIr.out.put (Nat.le_refl _) _).below⟩
end Go.Proofs.YtlcoibfpebggoaaGreatDoor
