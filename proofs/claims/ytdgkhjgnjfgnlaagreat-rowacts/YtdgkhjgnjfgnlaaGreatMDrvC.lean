/- Several texts in one. The walks of Flush, Crash and Change. What the statements call beside a drive: a sector that is blank, a text filled up; a drive that is alive and has its power; that a sector is written. A drive of the call's own: all its blocks lie from B on; so nothing older turns. -/
import Derived.Test.YtdgkhjgnjfgnlaaGreatDrvSettle
import Derived.BigQuiet
namespace Go.Proofs.YtdgkhjgnjfgnlaaGreat
open Go.RowKit Go.Maps

theorem DriveAt.tight {w : World} {p : Nat} {D : Dr} {F : Nat → Prop} (h : DriveAt w p D F) : DriveAt w p D (fun k => F k ∧ k < w.heap.size) := by
  obtain ⟨sb, pb, mb, hd, hin, hf⟩ := h
  exact ⟨sb, pb, mb, hd, hin, fun k hk => ⟨hf k hk, hin.lt k hk⟩⟩

set_option maxRecDepth 100000 in
set_option maxHeartbeats 400000 in
theorem flush_no {w : World} {p : Nat} {D : Dr} {F : Nat → Prop} (h : DriveAt w p D F) (hr : D.runsE ≠ 0) :
    Calls Tryz.prog 69 #[.pointer (some ⟨p, 0, none⟩)] w fun e w' => e = .returned (.int .i64 (D.runsE : Nat)) ∧ w' = w := by
  have hc := runs_any h
  have hle := runsE_le D
  obtain ⟨r, er⟩ : ∃ r, r = D.runsE := ⟨_, rfl⟩
  rw [← er] at hc hr hle ⊢
  have hne : ((r : Int) == 0) = false := by rw [beq_eq_false_iff_ne]; omega
  clear er
  go_enter Tryz.func69, Tryz.ntmps69
  go_wp2_with fail
  refine hc.mono ?_
  rintro e w' ⟨rfl, rfl⟩
  go_wp2
  go_ret
  exact ⟨rfl, rfl⟩

set_option maxRecDepth 100000 in
set_option maxHeartbeats 400000 in
theorem flush_yes {w : World} {p : Nat} {D : Dr} {F : Nat → Prop} (h : DriveAt w p D F) (hr : D.runsE = 0) (hlen : ∀ i, (D.writes i).length ≤ 1000000) :
    Calls Tryz.prog 69 #[.pointer (some ⟨p, 0, none⟩)] w fun e w' => e = .returned (.int .i64 0) ∧ DriveAt w' p D.flush F ∧ Only F w w' := by
  have hc := runs_any h
  rw [hr] at hc
  have hs := settle_any h 100 #[] (fun _ c => c) (fun _ c => Nat.le_refl c) hlen (fun _ => True) (fun _ _ => trivial) (fun W _ k c _ _ => (flushing k c W).mono fun e w' ⟨h1, h2⟩ => ⟨h1, by rw [h2]; exact Below.refl _ _⟩) call_flushing
  have HS : Hid (Calls Tryz.prog 70 #[.pointer (some ⟨p, 0, none⟩), .func (.func 100) #[] #[]] w fun e w' => e = .returned (.tuple #[]) ∧ DriveAt w' p (D.settle fun _ c => c) F ∧ Only F w w') := hs
  have HR : Hid ((D.settle fun _ c => c).runsE = 0) := hr
  clear hs hr hlen
  go_enter Tryz.func69, Tryz.ntmps69
  go_wp2_with fail
  refine hc.mono ?_
  rintro e w' ⟨rfl, rfl⟩
  go_wp2_with fail
  refine HS.out.mono ?_
  rintro e w1 ⟨rfl, hd1, ho1⟩
  have hsp := spend_any hd1 HR.out
  have O1 : Hid (Only F w' w1) := ho1
  clear hd1 ho1 hc
  go_wp2_with fail
  refine hsp.mono ?_
  rintro e w2 ⟨rfl, hd2, ho2⟩
  have D2 : Hid (DriveAt w2 p D.flush F) := hd2
  have O2 : Hid (Only F w' w2) := O1.out.then ho2
  clear hd2 ho2 hsp
  go_wp2
  go_ret
  exact ⟨rfl, D2.out, O2.out⟩

set_option maxRecDepth 100000 in
set_option maxHeartbeats 1000000 in
theorem crashing (keep : List Nat) (B : Nat) (a : Option Addr) (cap : Nat) (w : World) (hc : w.cell? ⟨B, 0, none⟩ = some (.slice a keep.length cap)) (hI : RowI .u8 w a keep.length (fun j => ((keep.getD j 0 : Nat) : Int))) (hlen : keep.length ≤ maxLen) (hb : ∀ j, keep.getD j 0 < 256)
    (k c : Nat) (hk : k < 4096) (hcc : c ≤ 1000000) :
    Calls Tryz.prog 71 #[.int .i64 (k : Nat), .int .i64 (c : Nat), .pointer (some ⟨B, 0, none⟩)] w fun e w' => e = .returned (.int .i64 (Dr.keeps keep k c : Nat)) ∧ Below w.heap.size w w' := by
  unfold maxLen at hlen
  by_cases h0 : keep.length = 0
  · have E : Hid (Dr.keeps keep k c = 0) := by unfold Hid Dr.keeps; rw [if_pos h0]
    rw [h0] at hc
    clear hI hlen hb h0
    go_enter Tryz.func71, Tryz.ntmps71
    go_wp2
    go_ret
    exact ⟨ret_int (by rw [E.out]; rfl), Below.refl _ _⟩
  · have hlt : k % keep.length < keep.length := Nat.mod_lt _ (by omega)
    obtain ⟨b, off, rfl, hcell⟩ := hI _ hlt
    have hx := hb (k % keep.length)
    obtain ⟨x, ex⟩ : ∃ x, x = keep.getD (k % keep.length) 0 := ⟨_, rfl⟩
    replace hcell : w.cell? ⟨b, off + k % keep.length, none⟩ = some (.int .u8 (keep.getD (k % keep.length) 0 : Nat)) := hcell
    rw [← ex] at hcell hx
    have e0 : Dr.keeps keep k c = x % (c + 1) := by unfold Dr.keeps; rw [if_neg h0, ← ex]
    obtain ⟨r, er⟩ : ∃ r, r = x % (c + 1) := ⟨_, rfl⟩
    rw [← er] at e0
    have E : Hid (Dr.keeps keep k c = r) := e0
    obtain ⟨j, ej⟩ : ∃ j, j = k % keep.length := ⟨_, rfl⟩
    obtain ⟨n, en⟩ : ∃ n, n = keep.length := ⟨_, rfl⟩
    rw [← ej] at hcell hlt
    rw [← en] at hlt hc hlen ej h0
    have m1 : (k : Int) % (n : Int) = (j : Int) := by rw [ej]; omega
    have m2 : (x : Int) % ((c : Int) + 1) = (r : Int) := by rw [er]; exact (Int.natCast_emod x (c + 1)).symm
    have hne : ((n : Int) == 0) = false := by rw [beq_eq_false_iff_ne]; omega
    have hn1 : 1 ≤ n := by omega
    clear hI hb e0 er ej ex en h0
    go_enter Tryz.func71, Tryz.ntmps71
    go_wp2
    go_quiet (fail)
    go_wp2
    go_ret
    exact ⟨ret_int (by rw [E.out]; exact m2), rfl, rfl, rfl, Nat.le_refl _, fun _ _ => rfl⟩

set_option maxRecDepth 100000 in
set_option maxHeartbeats 1000000 in
theorem crash_any {w : World} {p : Nat} {D : Dr} {F : Nat → Prop} (h : DriveAt w p D F) (hl : ∀ i, (D.writes i).length ≤ 1000000) (keep : List Nat) (a : Option Addr) (cap : Nat) (hI : RowI .u8 w a keep.length (fun j => ((keep.getD j 0 : Nat) : Int))) (hlen : keep.length ≤ maxLen) (hb : ∀ j, keep.getD j 0 < 256)
    (hna : 0 < keep.length → ∀ x, a = some x → ¬ F x.block) :
    Calls Tryz.prog 31 #[.pointer (some ⟨p, 0, none⟩), .slice a keep.length cap] w fun e w' => e = .returned (.tuple #[]) ∧ DriveAt w' p (D.crash keep) F ∧ Only F w w' := by
  have hd1 : DriveAt (w.alloc (.cells #[.slice a keep.length cap] 109)) p D (fun k => F k ∧ k < w.heap.size) := h.tight.only (Only.alloc (fun _ => False) w _) (fun _ _ _ hf => hf)
  have hcell : (w.alloc (.cells #[.slice a keep.length cap] 109)).cell? ⟨w.heap.size, 0, none⟩ = some (.slice a keep.length cap) := by
    rw [cell_of_row _ _ _ _ _ _ (heap_alloc_last w _)]; rfl
  have hs := settle_any hd1 71 #[.pointer (some ⟨w.heap.size, 0, none⟩)] (Dr.keeps keep) (Dr.keeps_le keep) hl
    (fun W => W.cell? ⟨w.heap.size, 0, none⟩ = some (.slice a keep.length cap) ∧ RowI .u8 W a keep.length (fun j => ((keep.getD j 0 : Nat) : Int)))
    (fun W hW => ⟨(World.cell?_of_block (a := ⟨w.heap.size, 0, none⟩) (hW.block w.heap.size (by simp) (fun hf => by have := hf.2; omega))).trans hcell, fun j hj => by
      obtain ⟨b, off, e, hc⟩ := hI j hj
      have hbl := World.block_lt_of_cell? w _ hc
      have hbl' : b < w.heap.size := hbl
      exact ⟨b, off, e, ((World.cell?_of_block (a := ⟨b, off + j, none⟩) (hW.block b (by simp; omega) (fun hf => hna (by omega) _ e hf.1))).trans (World.cell?_alloc_lt w _ ⟨b, off + j, none⟩ hbl)).trans hc⟩⟩)
    (fun W hG k c hk hc => crashing keep w.heap.size a cap W hG.1 hG.2 hlen hb k c hk hc) call_crashing
  have HS : Hid (Calls Tryz.prog 70 #[.pointer (some ⟨p, 0, none⟩), .func (.func 71) #[] #[.pointer (some ⟨w.heap.size, 0, none⟩)]] (w.alloc (.cells #[.slice a keep.length cap] 109)) fun e w' => e = .returned (.tuple #[]) ∧ DriveAt w' p (D.settle (Dr.keeps keep)) (fun k => F k ∧ k < w.heap.size) ∧ Only (fun k => F k ∧ k < w.heap.size) (w.alloc (.cells #[.slice a keep.length cap] 109)) w') := hs
  clear hs hd1 hcell hI hlen hb hna hl
  go_enter Tryz.func31, Tryz.ntmps31
  go_wp2_with fail
  refine HS.out.mono ?_
  rintro e w1 ⟨rfl, hd1, ho1⟩
  have O1 : Hid (Only F w w1) := (Only.alloc F w _).then (ho1.mono fun k hk => hk.1)
  obtain ⟨sb, pb, mb, hd, hin, hft⟩ := hd1
  have c4 := hin.cells.c4
  have f4 := hin.cells.f 4
  have c5 := hin.cells.c5
  have f5 := hin.cells.f 5
  have H : Hid (DrvIn w1 p sb pb mb hd (D.settle (Dr.keeps keep))) := hin
  have HF : Hid (∀ k, Foot p sb pb mb hd k → F k ∧ k < w.heap.size) := hft
  clear ho1 hin hft
  go_wp2
  go_end0
  obtain ⟨g1, g2⟩ := turn1 (j := 4) (v := .bool false) H.out.self
  obtain ⟨k1, k2⟩ := turn1 (j := 5) (v := .int .i64 0) g2
  refine ⟨rfl, ⟨sb, pb, mb, hd, H.out.turn (D' := D.crash keep) (g1.then k1) (by rw [k2]; rfl) ⟨H.out.ok.pos, H.out.ok.le, H.out.ok.spoilt, H.out.ok.sector, H.out.ok.writes, H.out.ok.out, by show 0 ≤ _; omega⟩ rfl rfl rfl, fun k hk => (HF.out k hk).1⟩, O1.out.then (One.in (g1.then k1) (HF.out p (.inl rfl)).1)⟩
end Go.Proofs.YtdgkhjgnjfgnlaaGreat

namespace Go.Proofs.YtdgkhjgnjfgnlaaGreat
open Go.RowKit Go.Maps

theorem txt_data (s : ByteArray) : txt s.data.toList = s := by cases s; rfl
theorem data_txt (l : List UInt8) : (txt l).data.toList = l := rfl
theorem txt_size (l : List UInt8) : (txt l).size = l.length := rfl
def fullL (l : List UInt8) : List UInt8 := (l ++ List.replicate 64 0).take 64
/-- a text filled up to a sector -/
def fullB (s : ByteArray) : ByteArray := txt (fullL s.data.toList)
theorem fullL_length (l : List UInt8) : (fullL l).length = 64 := by simp [fullL]
theorem fullB_size (s : ByteArray) : (fullB s).size = 64 := fullL_length _
def blankB : ByteArray := txt (List.replicate 64 0)
theorem blank_size : blankB.size = 64 := by simp [blankB, txt_size]

set_option maxRecDepth 100000 in
set_option maxHeartbeats 400000 in
theorem blank_any (w : World) : Calls Tryz.prog 61 #[] w fun e w' => e = .returned (.string blankB) ∧ w' = w := by
  go_enter Tryz.func61, Tryz.ntmps61
  go_wp2
  go_loop [1, 2] (fun s i => ∃ k : Nat, k ≤ 64 ∧ i = .int .i64 k ∧ s = .string (txt (List.replicate k 0))) (fun _ i => 64 - (intOf i).toNat)
  case atStart => exact ⟨0, by omega, rfl, rfl⟩
  case round =>
    obtain ⟨k, hk, rfl, rfl⟩ := hrel
    by_cases hlt : k < 64
    · have hsz : (txt (List.replicate k 0)).size = k := by simp [txt_size]
      obtain ⟨t, ht⟩ : ∃ t, t = txt (List.replicate k 0) := ⟨_, rfl⟩
      rw [← ht] at hsz ⊢
      have HT : Hid (t = txt (List.replicate k 0)) := ht
      clear ht
      go_wp2
      go_round
      case rel => exact ⟨k + 1, by omega, by go_num, by
        rw [HT.out, List.replicate_succ']
        first | rfl | (congr 1; apply ByteArray.ext; simp [txt]; rfl)⟩
      case measure => simp [intOf]; omega
    · have hkk : k = 64 := by omega
      subst hkk
      go_wp2
      go_ret
      exact ⟨rfl, rfl⟩

namespace Dr
/-- a drive of n sectors that is alive and has its power -/
structure Live (D : Dr) (n : Nat) : Prop where
  dead : D.dead = false
  goes : D.goes = false
  len : D.safe.length = n
theorem Live.run {D : Dr} {n : Nat} (h : D.Live n) : D.runsE = 0 := by unfold runsE; rw [h.dead, h.goes]; rfl
theorem Live.reach {D : Dr} {n i : Nat} (h : D.Live n) (hi : i < n) : D.reachE i = 0 := reachE_yes h.run (by rw [h.len]; exact hi)
theorem Live.take {D : Dr} {n i m : Nat} (h : D.Live n) (hi : i < n) (hm : m = 64) : D.takeE i m = 0 := by unfold takeE; rw [h.reach hi, if_pos rfl, if_pos hm]
theorem Live.out {D : Dr} {n i : Nat} (h : D.Live n) (hi : n ≤ i) : D.reachE i = 70 := by
  unfold reachE hasB; rw [if_pos h.run, h.len]
  have : decide ((i : Int) < (n : Int)) = false := by simp; omega
  rw [this]; simp
theorem Live.spend {D : Dr} {n : Nat} (h : D.Live n) : D.spend = D := by
  have := h.goes
  cases D; simp only at this; subst this; rfl
theorem Live.read {D : Dr} {n i : Nat} (h : D.Live n) (hi : i < n) (hs : D.spoilt.getD i false = false) : D.readE i = 0 ∧ D.readS i = D.last i := by
  have e : D.readE i = 0 := by unfold readE; rw [h.reach hi, if_pos rfl, Int.toNat_natCast, hs]; rfl
  exact ⟨e, by unfold readS; rw [if_pos e, Int.toNat_natCast]⟩
theorem Live.readNo {D : Dr} {n i : Nat} (h : D.Live n) (hi : i < n) (hs : D.spoilt.getD i false = true) : D.readE i = 41 ∧ D.readS i = [] := by
  have e : D.readE i = 41 := by unfold readE; rw [h.reach hi, if_pos rfl, Int.toNat_natCast, hs]; rfl
  exact ⟨e, by unfold readS; rw [if_neg (by omega)]⟩
theorem Live.put {D : Dr} {n : Nat} (h : D.Live n) (i : Nat) (s : List UInt8) : (D.put i s).Live n := ⟨h.dead, h.goes, h.len⟩
theorem Live.write {D : Dr} {n : Nat} (h : D.Live n) (i : Nat) (s : List UInt8) : D.write i s = D.put i s := (h.put i s).spend
theorem Live.spoil {D : Dr} {n : Nat} (h : D.Live n) (i : Nat) : (D.spoil i).Live n := ⟨h.dead, h.goes, h.len⟩
theorem Live.settle {D : Dr} {n : Nat} (h : D.Live n) (K : Nat → Nat → Nat) : (D.settle K).Live n := ⟨h.dead, h.goes, (safeAt_length D K _).trans h.len⟩
theorem Live.flush {D : Dr} {n : Nat} (h : D.Live n) : D.flush = D.settle fun _ c => c := (h.settle _).spend
theorem Live.fresh (n : Nat) : (Dr.fresh n).Live n := ⟨rfl, rfl, by simp [Dr.fresh]⟩
theorem fresh_spoilt (n i : Nat) : (Dr.fresh n).spoilt.getD i false = false := by
  simp only [Dr.fresh, List.getD_eq_getElem?_getD, List.getElem?_replicate]
  split <;> rfl
theorem fresh_safe {n i : Nat} (h : i < n) : (Dr.fresh n).safe.getD i [] = List.replicate 64 0 := by
  simp [Dr.fresh, h]
theorem put_same (D : Dr) (i : Nat) (s : List UInt8) : (D.put i s).writes i = D.writes i ++ [s] := if_pos rfl
theorem put_other (D : Dr) {i j : Nat} (s : List UInt8) (h : j ≠ i) : (D.put i s).writes j = D.writes j := if_neg h
theorem put_last (D : Dr) (i : Nat) (s : List UInt8) : (D.put i s).last i = s := by
  unfold last; rw [put_same, if_neg (by simp)]; simp
theorem getD_set_same {l : List Bool} {i : Nat} {b : Bool} (h : i < l.length) : (l.set i b).getD i false = b := by simp [h]
theorem getD_set_other {l : List Bool} {i j : Nat} {b : Bool} (h : i ≠ j) : (l.set i b).getD j false = l.getD j false := by
  simp only [List.getD_eq_getElem?_getD, List.getElem?_set_ne h]
theorem getD_set_false {l : List Bool} {i j : Nat} (h : l.getD j false = false) : (l.set i false).getD j false = false := by
  by_cases e : i = j
  · subst e
    simp only [List.getD_eq_getElem?_getD, List.getElem?_set]
    split
    · split <;> rfl
    · rename_i hn; exact absurd trivial hn
  · rw [getD_set_other e]; exact h
theorem put_spoilt (D : Dr) (i : Nat) (s : List UInt8) {j : Nat} (h : D.spoilt.getD j false = false) : (D.put i s).spoilt.getD j false = false := getD_set_false h
theorem flush_one {D : Dr} {n i : Nat} (h : D.Live n) (hi : i < n) : (D.settle fun _ c => c).safe.getD i [] = D.last i := by
  unfold last
  by_cases e : D.writes i = []
  · rw [if_pos e]; exact settle_idle _ (by rw [h.len]; exact hi) e
  · rw [if_neg e]
    obtain ⟨j, _, _, hj⟩ := settle_busy (fun _ c => c) (i := i) (by rw [h.len]; exact hi) e
    rw [hj, if_pos (List.length_pos_iff.2 e)]
end Dr

theorem write_live {w : World} {p n : Nat} {D : Dr} {F : Nat → Prop} (h : DriveAt w p D F) (hv : D.Live n) (i : Nat) (hi : i < n) (s : ByteArray) (hs : s.size = 64) (hlen : (D.writes i).length ≤ 1000000) :
    Calls Tryz.prog 66 #[.pointer (some ⟨p, 0, none⟩), .int .i64 (i : Nat), .string s] w fun e w' => e = .returned (.int .i64 0) ∧ DriveAt w' p (D.put i s.data.toList) (Plus F w.heap.size) ∧ Only F w w' := by
  have := write_yes h i s (hv.take hi hs) (by rw [hv.len]; exact hi) hlen
  rw [hv.write] at this
  exact this
theorem read_live {w : World} {p n : Nat} {D : Dr} {F : Nat → Prop} (h : DriveAt w p D F) (hv : D.Live n) (i : Nat) (hi : i < n) (hs : D.spoilt.getD i false = false) (t : ByteArray) (ht : D.last i = t.data.toList) :
    Calls Tryz.prog 76 #[.pointer (some ⟨p, 0, none⟩), .int .i64 (i : Nat)] w fun e w' => e = .returned (.tuple #[.string t, .int .i64 0]) ∧ Below w.heap.size w w' := by
  have := read_any h i
  rw [(hv.read hi hs).1, (hv.read hi hs).2, ht, txt_data] at this
  exact this
theorem read_bad {w : World} {p n : Nat} {D : Dr} {F : Nat → Prop} (h : DriveAt w p D F) (hv : D.Live n) (i : Nat) (hi : i < n) (hs : D.spoilt.getD i false = true) :
    Calls Tryz.prog 76 #[.pointer (some ⟨p, 0, none⟩), .int .i64 (i : Nat)] w fun e w' => e = .returned (.tuple #[.string (txt []), .int .i64 41]) ∧ Below w.heap.size w w' := by
  have := read_any h i
  rw [(hv.readNo hi hs).1, (hv.readNo hi hs).2] at this
  exact this
theorem flush_live {w : World} {p n : Nat} {D : Dr} {F : Nat → Prop} (h : DriveAt w p D F) (hv : D.Live n) (hlen : ∀ i, (D.writes i).length ≤ 1000000) :
    Calls Tryz.prog 69 #[.pointer (some ⟨p, 0, none⟩)] w fun e w' => e = .returned (.int .i64 0) ∧ DriveAt w' p (D.settle fun _ c => c) F ∧ Only F w w' := by
  have := flush_yes h hv.run hlen
  rw [hv.flush] at this
  exact this

end Go.Proofs.YtdgkhjgnjfgnlaaGreat

namespace Go.Proofs.YtdgkhjgnjfgnlaaGreat
open Go.RowKit Go.Maps

/-- A drive whose blocks lie from B on. -/
def Mine (w : World) (B p : Nat) (D : Dr) : Prop := DriveAt w p D (fun k => B ≤ k) ∧ B ≤ w.heap.size
theorem Mine.below {w w' : World} {B p : Nat} {D : Dr} (h : Mine w B p D) (hb : Below w.heap.size w w') : Mine w' B p D := ⟨h.1.below hb, Nat.le_trans h.2 hb.size⟩
theorem Mine.le {w : World} {B p : Nat} {D : Dr} (h : Mine w B p D) : B ≤ w.heap.size := h.2
theorem turned {w w' : World} {B : Nat} (h : Only (fun k => B ≤ k) w w') (hB : B ≤ w.heap.size) : Below B w w' := h.below (fun _ hk => hk) hB
theorem based {w w' : World} {B p : Nat} {D : Dr} (h : DriveAt w' p D (Plus (fun k => B ≤ k) w.heap.size)) (hB : B ≤ w.heap.size) : DriveAt w' p D (fun k => B ≤ k) := h.mono fun _ hk => hk.elim id (fun h1 => Nat.le_trans hB h1)

theorem new_mine (n B : Nat) (h1 : 1 ≤ n) (h2 : n ≤ 4096) (w : World) (hB : B ≤ w.heap.size) : Calls Tryz.prog 32 #[.int .i64 (n : Nat)] w fun e w' => ∃ p, e = .returned (.pointer (some ⟨p, 0, none⟩)) ∧ Mine w' B p (Dr.fresh n) ∧ Below B w w' :=
  (new_yes n h1 h2 w).mono fun _ _ ⟨p, he, hd, hb⟩ => ⟨p, he, ⟨hd.mono fun _ hk => Nat.le_trans hB hk, Nat.le_trans hB hb.size⟩, hb.mono hB⟩
theorem write_mine {w : World} {B p n : Nat} {D : Dr} (h : Mine w B p D) (hv : D.Live n) (i : Nat) (hi : i < n) (s : ByteArray) (hs : s.size = 64) (hlen : (D.writes i).length ≤ 1000000) :
    Calls Tryz.prog 66 #[.pointer (some ⟨p, 0, none⟩), .int .i64 (i : Nat), .string s] w fun e w' => e = .returned (.int .i64 0) ∧ Mine w' B p (D.put i s.data.toList) ∧ Below B w w' :=
  (write_live h.1 hv i hi s hs hlen).mono fun _ _ ⟨he, hd, ho⟩ => ⟨he, ⟨based hd h.2, Nat.le_trans h.2 ho.size⟩, turned ho h.2⟩
theorem flush_mine {w : World} {B p n : Nat} {D : Dr} (h : Mine w B p D) (hv : D.Live n) (hlen : ∀ i, (D.writes i).length ≤ 1000000) :
    Calls Tryz.prog 69 #[.pointer (some ⟨p, 0, none⟩)] w fun e w' => e = .returned (.int .i64 0) ∧ Mine w' B p (D.settle fun _ c => c) ∧ Below B w w' :=
  (flush_live h.1 hv hlen).mono fun _ _ ⟨he, hd, ho⟩ => ⟨he, ⟨hd, Nat.le_trans h.2 ho.size⟩, turned ho h.2⟩
theorem read_mine {w : World} {B p n : Nat} {D : Dr} (h : Mine w B p D) (hv : D.Live n) (i : Nat) (hi : i < n) (hs : D.spoilt.getD i false = false) (t : ByteArray) (ht : D.last i = t.data.toList) :
    Calls Tryz.prog 76 #[.pointer (some ⟨p, 0, none⟩), .int .i64 (i : Nat)] w fun e w' => e = .returned (.tuple #[.string t, .int .i64 0]) ∧ Mine w' B p D ∧ Below B w w' :=
  (read_live h.1 hv i hi hs t ht).mono fun _ _ ⟨he, hb⟩ => ⟨he, h.below hb, hb.mono h.2⟩
theorem read_mine_bad {w : World} {B p n : Nat} {D : Dr} (h : Mine w B p D) (hv : D.Live n) (i : Nat) (hi : i < n) (hs : D.spoilt.getD i false = true) :
    Calls Tryz.prog 76 #[.pointer (some ⟨p, 0, none⟩), .int .i64 (i : Nat)] w fun e w' => e = .returned (.tuple #[.string ⟨#[]⟩, .int .i64 41]) ∧ Mine w' B p D ∧ Below B w w' :=
  (read_bad h.1 hv i hi hs).mono fun _ _ ⟨he, hb⟩ => ⟨he, h.below hb, hb.mono h.2⟩
theorem read_mine_any {w : World} {B p : Nat} {D : Dr} (h : Mine w B p D) (i : Int) :
    Calls Tryz.prog 76 #[.pointer (some ⟨p, 0, none⟩), .int .i64 i] w fun e w' => e = .returned (.tuple #[.string (txt (D.readS i)), .int .i64 (D.readE i : Nat)]) ∧ Mine w' B p D ∧ Below B w w' :=
  (read_any h.1 i).mono fun _ _ ⟨he, hb⟩ => ⟨he, h.below hb, hb.mono h.2⟩
theorem spoil_mine {w : World} {B p n : Nat} {D : Dr} (h : Mine w B p D) (hv : D.Live n) (i : Nat) (hi : i < n) :
    Calls Tryz.prog 28 #[.pointer (some ⟨p, 0, none⟩), .int .i64 (i : Nat)] w fun e w' => e = .returned (.int .i64 0) ∧ Mine w' B p (D.spoil i) ∧ Below B w w' :=
  (spoil_yes h.1 i hv.run (by rw [hv.len]; exact hi)).mono fun _ _ ⟨he, hd, ho⟩ => ⟨he, ⟨hd, Nat.le_trans h.2 ho.size⟩, turned ho h.2⟩
theorem spoil_mine_out {w : World} {B p n : Nat} {D : Dr} (h : Mine w B p D) (hv : D.Live n) (i : Nat) (hi : n ≤ i) :
    Calls Tryz.prog 28 #[.pointer (some ⟨p, 0, none⟩), .int .i64 (i : Nat)] w fun e w' => e = .returned (.int .i64 70) ∧ w' = w := by
  have := spoil_no h.1 i (by rw [hv.out hi]; omega)
  rw [hv.out hi] at this
  exact this
theorem crash_mine {w : World} {B p : Nat} {D : Dr} (h : Mine w B p D) (hl : ∀ i, (D.writes i).length ≤ 1000000) (keep : List Nat) (a : Option Addr) (cap : Nat) (hI : RowI .u8 w a keep.length (fun j => ((keep.getD j 0 : Nat) : Int))) (hlen : keep.length ≤ maxLen) (hb : ∀ j, keep.getD j 0 < 256)
    (hna : 0 < keep.length → ∀ x, a = some x → x.block < B) :
    Calls Tryz.prog 31 #[.pointer (some ⟨p, 0, none⟩), .slice a keep.length cap] w fun e w' => e = .returned (.tuple #[]) ∧ Mine w' B p (D.crash keep) ∧ Below B w w' :=
  (crash_any h.1 hl keep a cap hI hlen hb (fun h0 x hx hB => by have := hna h0 x hx; omega)).mono fun _ _ ⟨he, hd, ho⟩ => ⟨he, ⟨hd, Nat.le_trans h.2 ho.size⟩, turned ho h.2⟩
/-- a crash by a list that was made behind the drive -/
theorem crash_mine_own {wr w : World} {B p : Nat} {D : Dr} (h : Mine wr B p D) (hw : Below wr.heap.size wr w) (hl : ∀ i, (D.writes i).length ≤ 1000000) (keep : List Nat) (a : Option Addr) (cap : Nat) (hI : RowI .u8 w a keep.length (fun j => ((keep.getD j 0 : Nat) : Int))) (hlen : keep.length ≤ maxLen) (hb : ∀ j, keep.getD j 0 < 256)
    (hna : ∀ x, a = some x → wr.heap.size ≤ x.block) :
    Calls Tryz.prog 31 #[.pointer (some ⟨p, 0, none⟩), .slice a keep.length cap] w fun e w' => e = .returned (.tuple #[]) ∧ Mine w' B p (D.crash keep) ∧ Below B w w' :=
  (crash_any (h.1.tight.below hw) hl keep a cap hI hlen hb (fun _ x hx hB => by have := hna x hx; omega)).mono fun _ _ ⟨he, hd, ho⟩ => ⟨he, ⟨hd.mono fun _ hk => hk.1, Nat.le_trans h.2 (Nat.le_trans hw.size ho.size)⟩, turned (ho.mono fun _ hk => hk.1) (Nat.le_trans h.2 hw.size)⟩
theorem off_mine {w : World} {B p : Nat} {D : Dr} (h : Mine w B p D) (a : Int) (ha : a ≤ 9223372036854775807) :
    Calls Tryz.prog 36 #[.pointer (some ⟨p, 0, none⟩), .int .i64 a] w fun e w' => e = .returned (.tuple #[]) ∧ Mine w' B p (D.off a) ∧ Below B w w' :=
  (off_any h.1 a ha).mono fun _ _ ⟨he, hd, ho⟩ => ⟨he, ⟨hd, Nat.le_trans h.2 ho.size⟩, turned ho h.2⟩
theorem die_mine {w : World} {B p : Nat} {D : Dr} (h : Mine w B p D) :
    Calls Tryz.prog 29 #[.pointer (some ⟨p, 0, none⟩)] w fun e w' => e = .returned (.tuple #[]) ∧ Mine w' B p D.die ∧ Below B w w' :=
  (die_any h.1).mono fun _ _ ⟨he, hd, ho⟩ => ⟨he, ⟨hd, Nat.le_trans h.2 ho.size⟩, turned ho h.2⟩
end Go.Proofs.YtdgkhjgnjfgnlaaGreat
