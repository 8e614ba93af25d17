import Derived.Test.YtdgkhjgnjfgnlaaGreatMRoA
import Derived.Test.YtdgkhjgnjfgnlaaGreatKitTexts
import Derived.Test.YtdgkhjgnjfgnlaaGreatKitStr
namespace Go.Proofs.YtdgkhjgnjfgnlaaGreat
open Go.RowKit
attribute [local go_sem] Oper.semAt_some
namespace Ro
section
variable (c k r dn bn : Nat) (C : Nat → Col) (bf : Nat → Int) (row off : Int)
def oneX (q : Nat) : ByteArray := if missB C bf row (colN c row.toNat q) then ⟨#[]⟩ else match C (colN c row.toNat q) with
 | none => ⟨#[]⟩
 | some x => txt (x.2.readS (4 + row * k + off))
def oneE (q : Nat) : Nat := if missB C bf row (colN c row.toNat q) then 41 else match C (colN c row.toNat q) with
 | none => 41
 | some x => x.2.readE (4 + row * k + off)
def offT (t : Nat) : Bool := (List.range t).any fun q => oneE c k C bf row off q == 42
def lostT (t : Nat) : List Int := ((List.range t).filter fun q => oneE c k C bf row off q != 0).map fun q => ((q : Nat) : Int)
def readE : Nat := if chk c k r dn bn C row off = 0 then (if offT c k C bf row off c then 42 else 0) else chk c k r dn bn C row off
def readN : Nat := if readE c k r dn bn C bf row off = 0 then c else 0
def readL : List Int := if readE c k r dn bn C bf row off = 0 then lostT c k C bf row off c else []
end
section
variable {c k : Nat} {C : Nat → Col} {bf : Nat → Int} {row off : Int}
theorem offT_succ (t : Nat) : offT c k C bf row off (t + 1) = (offT c k C bf row off t || (oneE c k C bf row off t == 42)) := by
 unfold offT; rw [List.range_succ, List.any_append]; simp
theorem lostT_yes {t : Nat} (h : oneE c k C bf row off t ≠ 0) : lostT c k C bf row off (t + 1) = lostT c k C bf row off t ++ [(t : Int)] := by
 unfold lostT; rw [List.range_succ, List.filter_append, List.map_append]
 congr 1
 simp [h]
theorem lostT_no {t : Nat} (h : oneE c k C bf row off t = 0) : lostT c k C bf row off (t + 1) = lostT c k C bf row off t := by
 unfold lostT; rw [List.range_succ, List.filter_append, List.map_append]
 simp [h]
theorem lostT_len (t : Nat) : (lostT c k C bf row off t).length ≤ t := by
 unfold lostT
 rw [List.length_map]
 have := List.length_filter_le (fun q => oneE c k C bf row off q != 0) (List.range t)
 rwa [List.length_range] at this
end
end Ro
def iVs (l : List Int) : List Value := l.map (Value.int .i64)
theorem iVs_snoc (l : List Int) (x : Int) : iVs (l ++ [x]) = iVs l ++ [.int .i64 x] := by simp [iVs]
def Txt16 (w : World) (B n : Nat) (f : Nat → ByteArray) (v : Value) : Prop := w.ownsRow B 9 1 v n (textVals n f)
def Int16 (w : World) (B : Nat) (l : List Int) (v : Value) : Prop := w.ownsRow B 3 1 v l.length (iVs l)
theorem At5.low {w W W' : World} {b c k r B : Nat} {vD vB : Value} (h : At5 w b c k r vD vB W) (hb : Below B W W') (hB : b < B) (hw : w.heap.size ≤ B) : At5 w b c k r vD vB W' :=
 ⟨(hb.cell (p := ⟨b, 0, none⟩) hB).trans h.1, (hb.cell (p := ⟨b, 1, none⟩) hB).trans h.2.1, (hb.cell (p := ⟨b, 2, none⟩) hB).trans h.2.2.1, (hb.cell (p := ⟨b, 3, none⟩) hB).trans h.2.2.2.1, (hb.cell (p := ⟨b, 4, none⟩) hB).trans h.2.2.2.2.1, h.2.2.2.2.2.trans (hb.mono hw)⟩
theorem row_low16 {w : World} {B B' t s n : Nat} {v : Value} {l : List Value} (h : w.ownsRow B t s v n l) (hB : B' ≤ B) : w.ownsRow B' t s v n l :=
 ⟨h.1, h.2.imp id fun ⟨g, cap, cur, e, hg, r⟩ => ⟨g, cap, cur, e, Nat.le_trans hB hg, r⟩⟩
def RdAns (w : World) (E n : Nat) (f : Nat → ByteArray) (l : List Int) (e : Ending) (w' : World) : Prop :=
 (∃ vl vi, e = .returned (.tuple #[vl, vi, .int .i64 (E : Int)]) ∧ Txt16 w' w.heap.size n f vl ∧ Int16 w' w.heap.size l vi) ∧ Below w.heap.size w w'
def RdYes (w : World) (c : Nat) (gone : Bool) (f : Nat → ByteArray) (l : List Int) (e : Ending) (w' : World) : Prop := RdAns w (if gone then 42 else 0) (if gone then 0 else c) f (if gone then [] else l) e w'
theorem keep_sd {w W W' : World} {b b1 o1 : Nat} {x0 x1 x2 x3 x4 x5 : Value} (hb : Below W.heap.size W W')
  (h : W.cell? ⟨b, 0, none⟩ = some x0 ∧ W.cell? ⟨b, 1, none⟩ = some x1 ∧ W.cell? ⟨b, 2, none⟩ = some x2 ∧ W.cell? ⟨b, 3, none⟩ = some x3 ∧ W.cell? ⟨b, 4, none⟩ = some x4 ∧ W.cell? ⟨b1, o1, none⟩ = some x5 ∧ Below w.heap.size w W) :
  W'.cell? ⟨b, 0, none⟩ = some x0 ∧ W'.cell? ⟨b, 1, none⟩ = some x1 ∧ W'.cell? ⟨b, 2, none⟩ = some x2 ∧ W'.cell? ⟨b, 3, none⟩ = some x3 ∧ W'.cell? ⟨b, 4, none⟩ = some x4 ∧ W'.cell? ⟨b1, o1, none⟩ = some x5 ∧ Below w.heap.size w W' := by
 obtain ⟨h0, h1, h2, h3, h4, h5, h7⟩ := h
 have hl := World.block_lt_of_cell? W _ h0
 exact ⟨(hb.cell (p := ⟨b, 0, none⟩) hl).trans h0, (hb.cell (p := ⟨b, 1, none⟩) hl).trans h1, (hb.cell (p := ⟨b, 2, none⟩) hl).trans h2, (hb.cell (p := ⟨b, 3, none⟩) hl).trans h3, (hb.cell (p := ⟨b, 4, none⟩) hl).trans h4,
  (hb.cell (p := ⟨b1, o1, none⟩) (World.block_lt_of_cell? W _ h5)).trans h5, h7.trans (hb.mono h7.size)⟩
theorem sd_low {w W : World} {b b1 o1 : Nat} {x0 x1 x2 x3 x4 x5 : Value} (h : W.cell? ⟨b, 0, none⟩ = some x0 ∧ W.cell? ⟨b, 1, none⟩ = some x1 ∧ W.cell? ⟨b, 2, none⟩ = some x2 ∧ W.cell? ⟨b, 3, none⟩ = some x3 ∧ W.cell? ⟨b, 4, none⟩ = some x4 ∧ W.cell? ⟨b1, o1, none⟩ = some x5 ∧ Below w.heap.size w W) : Below w.heap.size w W := h.2.2.2.2.2.2
section
variable {c k r : Nat} {da ba : Option Addr} {dn dcap bn bcap : Nat} {C : Nat → Ro.Col} {bf : Nat → Int}
set_option maxRecDepth 100000 in
set_option maxHeartbeats 4000000 in
theorem rRead16_no (hok : Lay.ok (c : Int) (k : Int) (r : Int)) (hdn : dn ≤ 1000000) (row off : Int) (w : World) (h : RefSet w da dn ba bn C bf) (hno : Ro.chk c k r dn bn C row off ≠ 0) :
  Calls Tryz.prog 13 #[.agg #[.int .i64 (c : Int), .int .i64 (k : Int), .int .i64 (r : Int), .slice da dn dcap, .slice ba bn bcap], .int .i64 row, .int .i64 off] w (RdAns w (Ro.chk c k r dn bn C row off) 0 (fun _ => ⟨#[]⟩) []) := by
 have X0 : Hid (At5 w w.heap.size c k r (.slice da dn dcap) (.slice ba bn bcap) (w.alloc (.cells #[.int .i64 (c : Int), .int .i64 (k : Int), .int .i64 (r : Int), .slice da dn dcap, .slice ba bn bcap] 33))) := At5.new _ _ _ _ _ _ _
 have hm := rCheck16 (dcap := dcap) (bcap := bcap) hok hdn row off _ (h.below X0.out.2.2.2.2.2)
 obtain ⟨E, hE⟩ : ∃ E, Ro.chk c k r dn bn C row off = E := ⟨_, rfl⟩
 rw [hE] at hm hno ⊢
 have hne : ((E : Int) != 0) = true := by rw [bne_iff_ne]; omega
 have HM : Hid (Calls Tryz.prog 42 #[.agg #[.int .i64 (c : Int), .int .i64 (k : Int), .int .i64 (r : Int), .slice da dn dcap, .slice ba bn bcap], .int .i64 row, .int .i64 off] (w.alloc (.cells #[.int .i64 (c : Int), .int .i64 (k : Int), .int .i64 (r : Int), .slice da dn dcap, .slice ba bn bcap] 33)) fun e w' => e = .returned (.int .i64 (E : Int)) ∧ Below (w.alloc (.cells #[.int .i64 (c : Int), .int .i64 (k : Int), .int .i64 (r : Int), .slice da dn dcap, .slice ba bn bcap] 33)).heap.size (w.alloc (.cells #[.int .i64 (c : Int), .int .i64 (k : Int), .int .i64 (r : Int), .slice da dn dcap, .slice ba bn bcap] 33)) w') := hm
 have hlast : w.heap.size < (w.alloc (.cells #[.int .i64 (c : Int), .int .i64 (k : Int), .int .i64 (r : Int), .slice da dn dcap, .slice ba bn bcap] 33)).heap.size := World.block_lt_of_cell? _ _ X0.out.1
 obtain ⟨k0, k1, k2, k3, k4, _⟩ := X0.out
 clear hm hE h hok hno
 go_enter Tryz.func13, Tryz.ntmps13
 go_wp2_with fail
 refine HM.out.mono ?_
 rintro e w1 ⟨rfl, hb1⟩
 have B1 : Hid (Below w.heap.size w w1) := (X0.out.kept hb1).2.2.2.2.2
 clear hb1
 go_wp2
 go_ret3
 exact ⟨⟨.slice none 0 0, .slice none 0 0, rfl, World.ownsRow_nil _ _ _ _, World.ownsRow_nil _ _ _ _⟩, B1.out⟩
structure Rd16 (w : World) (c k r : Nat) (vD vB : Value) (t : Nat) (f : Nat → ByteArray) (vt : Value) (l : List Int) (vi : Value) (W : World) : Prop where
 at5 : At5 w w.heap.size c k r vD vB W
 txt : Txt16 W (w.heap.size + 1) t f vt
 int : Int16 W (w.heap.size + 1) l vi
theorem Rd16.lt {w W : World} {t : Nat} {f : Nat → ByteArray} {vt vi vD vB : Value} {l : List Int} (h : Rd16 w c k r vD vB t f vt l vi W) : w.heap.size < W.heap.size := World.block_lt_of_cell? W _ h.at5.1
theorem Rd16.kept {w W W' : World} {t : Nat} {f : Nat → ByteArray} {vt vi vD vB : Value} {l : List Int} (h : Rd16 w c k r vD vB t f vt l vi W) (hb : Below W.heap.size W W') : Rd16 w c k r vD vB t f vt l vi W' :=
 ⟨h.at5.kept hb, ownsRow_below h.txt hb, ownsRow_below h.int hb⟩
theorem Rd16.more {w W w1 : World} {t n : Nat} {f : Nat → ByteArray} {vt vi vD vB v' : Value} {l : List Int} {x : Int} (h : Rd16 w c k r vD vB t f vt l vi W) (hn : n = l.length)
  (ho : w1.ownsRow (w.heap.size + 1) 3 1 v' (n + 1) (iVs l ++ [.int .i64 x])) (hg : (W.alloc (.cells #[.int .i64 x] 3)).grownBy w1 vi.ownBlock) : Rd16 w c k r vD vB t f vt (l ++ [x]) v' w1 := by
 have hba := below_append h.int h.lt hg
 refine ⟨h.at5.low hba (Nat.lt_succ_self _) (Nat.le_succ _), ownsRow_across h.txt h.int (by decide) hg, ?_⟩
 unfold Int16
 rw [List.length_append, ← hn, iVs_snoc]
 exact ho
theorem Rd16.read {w W w1 : World} {t : Nat} {f : Nat → ByteArray} {vt vi vD vB v' : Value} {l : List Int} (h : Rd16 w c k r vD vB t f vt l vi W)
  (ho : w1.ownsRow (w.heap.size + 1) 9 1 v' (t + 1) (textVals t f ++ [.string (f t)])) (hg : (W.alloc (.cells #[.string (f t)] 9)).grownBy w1 vt.ownBlock) : Rd16 w c k r vD vB (t + 1) f v' l vi w1 := by
 have hba := below_append h.txt h.lt hg
 refine ⟨h.at5.low hba (Nat.lt_succ_self _) (Nat.le_succ _), ?_, ownsRow_across h.int h.txt (by decide) hg⟩
 unfold Txt16
 rw [← textVals_snoc]
 exact ho
set_option maxRecDepth 100000 in
set_option maxHeartbeats 16000000 in
theorem rRead16_yes (hok : Lay.ok (c : Int) (k : Int) (r : Int)) (row off : Nat) (hrow : row < r) (w : World) (h : RefSet w da c ba c C bf) (hyes : Ro.chk c k r c c C (row : Int) (off : Int) = 0) :
    Calls Tryz.prog 13 #[.agg #[.int .i64 (c : Int), .int .i64 (k : Int), .int .i64 (r : Int), .slice da c dcap, .slice ba c bcap], .int .i64 (row : Int), .int .i64 (off : Int)] w
      (RdYes w c (Ro.offT c k C bf (row : Int) (off : Int) c) (Ro.oneX c k C bf (row : Int) (off : Int)) (Ro.lostT c k C bf (row : Int) (off : Int) c)) := by
  have hc10 : c ≤ 10 := by have := hok.1; omega
  have hc0 : 0 < c := by have := hok.1; omega
  have X0 : Hid (At5 w w.heap.size c k r (.slice da c dcap) (.slice ba c bcap) (w.alloc (.cells #[.int .i64 (c : Int), .int .i64 (k : Int), .int .i64 (r : Int), .slice da c dcap, .slice ba c bcap] 33))) := At5.new _ _ _ _ _ _ _
  have hm := rCheck16 (dcap := dcap) (bcap := bcap) hok (by omega) (row : Int) (off : Int) _ (h.below X0.out.2.2.2.2.2)
  rw [hyes] at hm
  have HM : Hid (Calls Tryz.prog 42 #[.agg #[.int .i64 (c : Int), .int .i64 (k : Int), .int .i64 (r : Int), .slice da c dcap, .slice ba c bcap], .int .i64 (row : Int), .int .i64 (off : Int)] (w.alloc (.cells #[.int .i64 (c : Int), .int .i64 (k : Int), .int .i64 (r : Int), .slice da c dcap, .slice ba c bcap] 33)) fun e w' => e = .returned (.int .i64 0) ∧ Below (w.alloc (.cells #[.int .i64 (c : Int), .int .i64 (k : Int), .int .i64 (r : Int), .slice da c dcap, .slice ba c bcap] 33)).heap.size (w.alloc (.cells #[.int .i64 (c : Int), .int .i64 (k : Int), .int .i64 (r : Int), .slice da c dcap, .slice ba c bcap] 33)) w') := hm
  have HCOL : Hid (∀ W t, t < c → Calls Tryz.prog 43 #[.agg #[.int .i64 (c : Int), .int .i64 (k : Int), .int .i64 (r : Int), .slice da c dcap, .slice ba c bcap], .int .i64 (row : Int), .int .i64 (t : Nat)] W fun e w' => e = .returned (.int .i64 (Ro.colN c row t : Nat)) ∧ Below W.heap.size W w') := fun W t ht => rRole16 hok row t hrow ht W
  have HMIS : Hid (∀ W z, z < c → Below w.heap.size w W → Calls Tryz.prog 44 #[.agg #[.int .i64 (c : Int), .int .i64 (k : Int), .int .i64 (r : Int), .slice da c dcap, .slice ba c bcap], .int .i64 (row : Int), .int .i64 (z : Nat)] W fun e w' => e = .returned (.bool (Ro.missB C bf (row : Int) z)) ∧ Below W.heap.size W w') := fun W z hz hW => rMissing16 (row : Int) z hz hz W (h.below hW)
  have hoff : off < k := by
    unfold Ro.chk at hyes
    split at hyes
    · split at hyes
      · rename_i hin
        unfold Ro.inB at hin
        simp only [Bool.and_eq_true, decide_eq_true_eq] at hin
        omega
      · cases hyes
    · cases hyes
  have HSEC : Hid (∀ W, Calls Tryz.prog 46 #[.agg #[.int .i64 (c : Int), .int .i64 (k : Int), .int .i64 (r : Int)], .int .i64 (row : Int), .int .i64 (off : Int)] W fun e w' => e = .returned (.int .i64 (4 + (row : Int) * (k : Int) + (off : Int))) ∧ Below W.heap.size W w') := fun W => by
    have h := rSector_any (c : Int) (k : Int) (r : Int) (row : Int) (off : Int) W
    rw [show Lay.sectI (c : Int) (k : Int) (r : Int) (row : Int) (off : Int) = 4 + (row : Int) * (k : Int) + (off : Int) from if_pos ⟨⟨hok, by omega, by omega⟩, by omega, by omega⟩] at h
    exact h
  have H : Hid (RefSet w da c ba c C bf) := h
  have HZ : Hid (∀ t, Ro.colN c row t < c) := fun t => Ro.colN_lt hc0
  obtain ⟨f, hf⟩ : ∃ f, Ro.oneX c k C bf (row : Int) (off : Int) = f := ⟨_, rfl⟩
  have HF : Hid (Ro.oneX c k C bf (row : Int) (off : Int) = f) := hf
  rw [hf]
  have hlast : w.heap.size < (w.alloc (.cells #[.int .i64 (c : Int), .int .i64 (k : Int), .int .i64 (r : Int), .slice da c dcap, .slice ba c bcap] 33)).heap.size := World.block_lt_of_cell? _ _ X0.out.1
  obtain ⟨k0, k1, k2, k3, k4, _⟩ := X0.out
  obtain ⟨i0, q1, q2, q3, q4⟩ := info_parts (show (Tryz.prog.info? 3).map (fun i => (i.zero, i.size, i.bytes)) = some (some (.int .i64 0), 1, 8) by kernel_rfl)
  have HI0 : Hid (Tryz.prog.info? 3 = some i0 ∧ i0.zero = some (.int .i64 0) ∧ i0.size = 1 ∧ i0.bytes = 8) := ⟨q1, q2, q3, q4⟩
  obtain ⟨iS, s1, s2, s3, s4⟩ := info_parts info_str
  have HIS : Hid (Tryz.prog.info? 9 = some iS ∧ iS.zero = some (.string ByteArray.empty) ∧ iS.size = 1 ∧ iS.bytes = 16) := ⟨s1, s2, s3, s4⟩
  clear hm h hok hyes hf hrow hoff hc0 q1 q2 q3 q4 s1 s2 s3 s4
  go_enter Tryz.func13, Tryz.ntmps13
  go_wp2_with fail
  refine HM.out.mono ?_
  rintro e w1 ⟨rfl, hb1⟩
  have hA1 := X0.out.kept hb1
  have hl1 : w.heap.size < w1.heap.size := World.block_lt_of_cell? _ _ hA1.1
  obtain ⟨j0, j1, j2, j3, j4, _⟩ := X0.out.kept hb1
  have R0 : Hid (Rd16 w c k r (.slice da c dcap) (.slice ba c bcap) 0 f (.slice (some ⟨w1.heap.size, 0, none⟩) 0 0) [] (.slice (some ⟨w1.heap.size + 1, 0, none⟩) 0 0) ((w1.alloc (.cells #[] 9)).alloc (.cells #[] 3))) := by
    have b1 : Below w1.heap.size w1 ((w1.alloc (.cells #[] 9)).alloc (.cells #[] 3)) := ((Below.refl _ w1).alloc (Nat.le_refl _) _).alloc (by simp) _
    refine ⟨hA1.kept b1, ?_, ?_⟩
    · have h1 : (w1.alloc (.cells #[] 9)).ownsRow (w.heap.size + 1) 9 1 (.slice (some ⟨w1.heap.size, 0, none⟩) 0 0) 0 [] := World.ownsRow_made (base := w.heap.size + 1) (e := 9) (size := 1) w1 #[] 0 hl1 (by decide) rfl
      exact ownsRow_below h1 ((Below.refl _ _).alloc (Nat.le_refl _) _)
    · have h2 := World.ownsRow_made (base := w.heap.size + 1) (e := 3) (size := 1) (w1.alloc (.cells #[] 9)) #[] 0 (by simp; omega) (by decide) rfl
      rw [World.size_alloc] at h2
      exact h2
  clear hb1 hA1 HM X0 k0 k1 k2 k3 k4 hlast
  go_wp2_with fail
  go_loopg [10, 11, 12] c (fun gg s10 s11 s12 wr => ∃ t : Nat, t ≤ c ∧ gg = c - t ∧ s12 = .int .i64 (t : Int) ∧ Rd16 w c k r (.slice da c dcap) (.slice ba c bcap) t f s10 (Ro.lostT c k C bf (row : Int) (off : Int) t) s11 wr ∧ Ro.offT c k C bf (row : Int) (off : Int) t = false)
  case atStart => exact ⟨0, Nat.zero_le _, rfl, rfl, R0.out, rfl⟩
  case round =>
    obtain ⟨t, ht, rfl, rfl, hR, hoffT⟩ := hrel
    obtain ⟨vt, hvt⟩ : ∃ vt, vt = u10 := ⟨u10, rfl⟩
    subst hvt
    obtain ⟨vi, hvi⟩ : ∃ vi, vi = u11 := ⟨u11, rfl⟩
    subst hvi
    have HR : Hid (Rd16 w c k r (.slice da c dcap) (.slice ba c bcap) t f vt (Ro.lostT c k C bf (row : Int) (off : Int) t) vi wr) := hR
    have HO : Hid (Ro.offT c k C bf (row : Int) (off : Int) t = false) := hoffT
    have hlr : w.heap.size < wr.heap.size := hR.lt
    obtain ⟨p0, p1, p2, p3, p4, _⟩ := hR.at5
    clear R0 j0 j1 j2 j3 j4 hl1 hR hoffT
    by_cases hlt : t < c
    · have hi : (t : Int) < (c : Int) := by omega
      have hzc := HZ.out t
      obtain ⟨ln, hln⟩ : ∃ ln, ln = (Ro.lostT c k C bf (row : Int) (off : Int) t).length := ⟨_, rfl⟩
      have hle := Ro.lostT_len (c := c) (k := k) (C := C) (bf := bf) (row := (row : Int)) (off := (off : Int)) t
      rw [← hln] at hle
      have HLN : Hid (ln = (Ro.lostT c k C bf (row : Int) (off : Int) t).length) := hln
      have hfx : f t = Ro.oneX c k C bf (row : Int) (off : Int) t := by rw [← HF.out]
      have HC : Hid (∀ W, Calls Tryz.prog 43 #[.agg #[.int .i64 (c : Int), .int .i64 (k : Int), .int .i64 (r : Int), .slice da c dcap, .slice ba c bcap], .int .i64 (row : Int), .int .i64 (t : Nat)] W fun e w' => e = .returned (.int .i64 (Ro.colN c row t : Nat)) ∧ Below W.heap.size W w') := fun W => HCOL.out W t hlt
      have hmis := fun W hW => HMIS.out W _ hzc hW
      have hone : Ro.oneE c k C bf (row : Int) (off : Int) t = (if Ro.missB C bf (row : Int) (Ro.colN c row t) then 41 else match C (Ro.colN c row t) with
        | none => 41
        | some x => x.2.readE (4 + (row : Int) * (k : Int) + (off : Int))) := by unfold Ro.oneE; rw [Int.toNat_natCast]
      have hxx : Ro.oneX c k C bf (row : Int) (off : Int) t = (if Ro.missB C bf (row : Int) (Ro.colN c row t) then ⟨#[]⟩ else match C (Ro.colN c row t) with
        | none => ⟨#[]⟩
        | some x => txt (x.2.readS (4 + (row : Int) * (k : Int) + (off : Int)))) := by unfold Ro.oneX; rw [Int.toNat_natCast]
      have hsucc := Ro.offT_succ (c := c) (k := k) (C := C) (bf := bf) (row := (row : Int)) (off := (off : Int)) t
      rw [HO.out, Bool.false_or] at hsucc
      obtain ⟨z, hz⟩ : ∃ z, Ro.colN c row t = z := ⟨_, rfl⟩
      rw [hz] at HC hmis hone hxx hzc
      obtain ⟨m, hm⟩ : ∃ m, Ro.missB C bf (row : Int) z = m := ⟨_, rfl⟩
      rw [hm] at hmis hone hxx
      have HM : Hid (∀ W, Below w.heap.size w W → Calls Tryz.prog 44 #[.agg #[.int .i64 (c : Int), .int .i64 (k : Int), .int .i64 (r : Int), .slice da c dcap, .slice ba c bcap], .int .i64 (row : Int), .int .i64 (z : Nat)] W fun e w' => e = .returned (.bool m) ∧ Below W.heap.size W w') := hmis
      obtain ⟨q1, q2, q3, q4⟩ := HI0.out
      obtain ⟨s1, s2, s3, s4⟩ := HIS.out
      clear hmis hz hln
      cases m with
      | true =>
        have e1 : Ro.oneE c k C bf (row : Int) (off : Int) t = 41 := by rw [hone, if_pos rfl]
        have e2 : f t = ⟨#[]⟩ := by rw [hfx, hxx, if_pos rfl]
        have HS : Hid (Ro.offT c k C bf (row : Int) (off : Int) (t + 1) = false) := by show _ = _; rw [hsucc, e1]; rfl
        have HL1 : Hid (Ro.lostT c k C bf (row : Int) (off : Int) (t + 1) = Ro.lostT c k C bf (row : Int) (off : Int) t ++ [(t : Int)]) := Ro.lostT_yes (by rw [e1]; decide)
        have HX : Hid (f t = ⟨#[]⟩) := e2
        have OWI : ∀ W, Rd16 w c k r (.slice da c dcap) (.slice ba c bcap) t f vt (Ro.lostT c k C bf (row : Int) (off : Int) t) vi W → W.ownsRow (w.heap.size + 1) 3 1 vi ln (iVs (Ro.lostT c k C bf (row : Int) (off : Int) t)) := fun W h => by rw [HLN.out]; exact h.int
        clear hfx hone hxx hsucc hm e1 e2
        have tk1 : True := trivial
        go_wp2_with (first | (go_at_call 43; refine (HC.out _).mono ?_; rintro e w2 ⟨rfl, hb2⟩; have R2 : Hid (Rd16 w c k r (.slice da c dcap) (.slice ba c bcap) t f vt (Ro.lostT c k C bf (row : Int) (off : Int) t) vi w2) := HR.out.kept hb2; obtain ⟨m0, m1, m2, m3, m4, _⟩ := R2.out.at5; have hl2 : w.heap.size < w2.heap.size := R2.out.lt; clear hb2) | (go_at_call 44; refine (HM.out _ R2.out.at5.2.2.2.2.2).mono ?_; rintro e w3 ⟨rfl, hb3⟩; have R3 : Hid (Rd16 w c k r (.slice da c dcap) (.slice ba c bcap) t f vt (Ro.lostT c k C bf (row : Int) (off : Int) t) vi w3) := R2.out.kept hb3; obtain ⟨n0, n1, n2, n3, n4, _⟩ := R3.out.at5; have hl3 : w.heap.size < w3.heap.size := R3.out.lt; clear hb3) | (at_builtin; have _t := tk1; refine wpList_append_own _ rfl _ _ 28 rfl (w.heap.size + 1) 3 i0 (.int .i64 0) 1 8 Tryz.underlying28 q1 q2 q3 q4 rfl (by decide) vi ln (iVs (Ro.lostT c k C bf (row : Int) (off : Int) t)) rfl ((OWI _ R3.out).alloc _) ⟨w3.heap.size, 0, none⟩ 1 1 [.int .i64 (t : Int)] rfl rfl (cell_one_new _ _ _) (by simp [Value.oneCell']) (by unfold maxLen; omega) (by omega) (by simp; omega) ?_; go_loud (intro v5 w5 hown5 hgrow5 _; obtain ⟨g5, cap5, rfl⟩ := ownsRow_succ hown5; have R5 : Hid (Rd16 w c k r (.slice da c dcap) (.slice ba c bcap) t f vt (Ro.lostT c k C bf (row : Int) (off : Int) t ++ [(t : Int)]) (.slice (some ⟨g5, 0, none⟩) (ln + 1) cap5) w5) := R3.out.more HLN.out hown5 hgrow5; have OWT5 : Hid (w5.ownsRow (w.heap.size + 1) 9 1 vt t (textVals t f)) := R5.out.txt; have hl5 : w.heap.size < w5.heap.size := R5.out.lt; clear _t tk1)) | (at_builtin; refine wpList_append_own _ rfl _ _ 40 rfl (w.heap.size + 1) 9 iS (.string ByteArray.empty) 1 16 Tryz.underlying40 s1 s2 s3 s4 rfl (by decide) vt t (textVals t f) rfl (OWT5.out.alloc _) ⟨w5.heap.size, 0, none⟩ 1 1 [.string ⟨#[]⟩] rfl rfl (cell_one_new _ _ _) (by simp [Value.oneCell']) (by unfold maxLen; omega) (by omega) (by simp; omega) ?_; go_loud (intro v6 w6 hown6 hgrow6 _; obtain ⟨g6, cap6, rfl⟩ := ownsRow_succ hown6)))
        have R6 := R5.out.read (by rw [HX.out]; exact hown6) (by rw [HX.out]; exact hgrow6)
        go_roundg (c - (t + 1))
        case measure => omega
        case rel => exact ⟨t + 1, by omega, rfl, by go_num, by rw [HL1.out]; exact R6, HS.out⟩
      | false =>
        cases hC : C z with
        | none => rw [show Ro.missB C bf (row : Int) z = true by unfold Ro.missB; rw [hC]] at hm; cases hm
        | some x =>
          obtain ⟨p, D⟩ := x
          rw [hC] at hone hxx
          have hcell := H.out.row z hzc
          rw [hC] at hcell
          obtain ⟨b1, o1, rfl, hp⟩ := hcell
          obtain ⟨G, hG⟩ := H.out.drv z p D hzc hC
          obtain ⟨E, hE⟩ : ∃ E, D.readE (4 + (row : Int) * (k : Int) + (off : Int)) = E := ⟨_, rfl⟩
          obtain ⟨X, hX⟩ : ∃ X, txt (D.readS (4 + (row : Int) * (k : Int) + (off : Int))) = X := ⟨_, rfl⟩
          have e1 : Ro.oneE c k C bf (row : Int) (off : Int) t = E := by rw [hone, if_neg (by decide)]; exact hE
          have e2 : f t = X := by rw [hfx, hxx, if_neg (by decide)]; exact hX
          have hrd : ∀ W, Below w.heap.size w W → Calls Tryz.prog 45 #[.pointer (some ⟨p, 0, none⟩), .int .i64 (4 + (row : Int) * (k : Int) + (off : Int))] W fun e w' => e = .returned (.tuple #[.string X, .int .i64 (E : Int)]) ∧ w' = W := fun W hW => by
            have h := pRead_any (hG.below hW) (4 + (row : Int) * (k : Int) + (off : Int))
            rw [hE, hX] at h
            exact h
          obtain ⟨sc, hsc⟩ : ∃ sc, 4 + (row : Int) * (k : Int) + (off : Int) = sc := ⟨_, rfl⟩
          rw [hsc] at hrd
          have HSE : Hid (∀ W, Calls Tryz.prog 46 #[.agg #[.int .i64 (c : Int), .int .i64 (k : Int), .int .i64 (r : Int)], .int .i64 (row : Int), .int .i64 (off : Int)] W fun e w' => e = .returned (.int .i64 sc) ∧ Below W.heap.size W w') := fun W => by rw [← hsc]; exact HSEC.out W
          have HRD : Hid (∀ W, Below w.heap.size w W → Calls Tryz.prog 45 #[.pointer (some ⟨p, 0, none⟩), .int .i64 sc] W fun e w' => e = .returned (.tuple #[.string X, .int .i64 (E : Int)]) ∧ w' = W) := hrd
          have HP : Hid (w.cell? ⟨b1, o1 + z, none⟩ = some (.pointer (some ⟨p, 0, none⟩))) := hp
          have HX : Hid (f t = X) := e2
          have OWI : ∀ W, Rd16 w c k r (.slice (some ⟨b1, o1, none⟩) c dcap) (.slice ba c bcap) t f vt (Ro.lostT c k C bf (row : Int) (off : Int) t) vi W → W.ownsRow (w.heap.size + 1) 3 1 vi ln (iVs (Ro.lostT c k C bf (row : Int) (off : Int) t)) := fun W h => by rw [HLN.out]; exact h.int
          have hzi : (z : Int) < (c : Int) := by omega
          by_cases h42 : E = 42
          · have HS : Hid (Ro.offT c k C bf (row : Int) (off : Int) c = true) := by
              show _ = _
              unfold Ro.offT
              rw [List.any_eq_true]
              exact ⟨t, List.mem_range.2 hlt, by rw [e1, h42]; rfl⟩
            have v1 : ((E : Int) == 42) = true := by rw [h42]; rfl
            clear hfx hone hxx hsucc hm e1 e2 hE hX hrd hsc hC hG hp h42
            go_wp2_with (first | (go_at_call 43; refine (HC.out _).mono ?_; rintro e w2 ⟨rfl, hb2⟩; have R2 : Hid (Rd16 w c k r (.slice (some ⟨b1, o1, none⟩) c dcap) (.slice ba c bcap) t f vt (Ro.lostT c k C bf (row : Int) (off : Int) t) vi w2) := HR.out.kept hb2; obtain ⟨m0, m1, m2, m3, m4, _⟩ := R2.out.at5; have hl2 : w.heap.size < w2.heap.size := R2.out.lt; clear hb2) | (go_at_call 44; refine (HM.out _ R2.out.at5.2.2.2.2.2).mono ?_; rintro e w3 ⟨rfl, hb3⟩; have R3 : Hid (Rd16 w c k r (.slice (some ⟨b1, o1, none⟩) c dcap) (.slice ba c bcap) t f vt (Ro.lostT c k C bf (row : Int) (off : Int) t) vi w3) := R2.out.kept hb3; obtain ⟨n0, n1, n2, n3, n4, _⟩ := R3.out.at5; have hl3 : w.heap.size < w3.heap.size := R3.out.lt; clear hb3))
            have hp3 := (R3.out.at5.2.2.2.2.2.cell (p := ⟨b1, o1 + z, none⟩) (World.block_lt_of_cell? w _ HP.out)).trans HP.out
            have hS0 : w3.drew.cell? ⟨w.heap.size, 0, none⟩ = some (.int .i64 (c : Int)) ∧ w3.drew.cell? ⟨w.heap.size, 1, none⟩ = some (.int .i64 (k : Int)) ∧ w3.drew.cell? ⟨w.heap.size, 2, none⟩ = some (.int .i64 (r : Int)) ∧ w3.drew.cell? ⟨w.heap.size, 3, none⟩ = some (.slice (some ⟨b1, o1, none⟩) c dcap) ∧ w3.drew.cell? ⟨w.heap.size, 4, none⟩ = some (.slice ba c bcap) ∧ w3.drew.cell? ⟨b1, o1 + z, none⟩ = some (.pointer (some ⟨p, 0, none⟩)) ∧ Below w.heap.size w w3.drew := ⟨R3.out.at5.1, R3.out.at5.2.1, R3.out.at5.2.2.1, R3.out.at5.2.2.2.1, R3.out.at5.2.2.2.2.1, hp3, R3.out.at5.2.2.2.2.2.drew⟩
            go_region_held3 (fun W => W.cell? ⟨w.heap.size, 0, none⟩ = some (.int .i64 (c : Int)) ∧ W.cell? ⟨w.heap.size, 1, none⟩ = some (.int .i64 (k : Int)) ∧ W.cell? ⟨w.heap.size, 2, none⟩ = some (.int .i64 (r : Int)) ∧ W.cell? ⟨w.heap.size, 3, none⟩ = some (.slice (some ⟨b1, o1, none⟩) c dcap) ∧ W.cell? ⟨w.heap.size, 4, none⟩ = some (.slice ba c bcap) ∧ W.cell? ⟨b1, o1 + z, none⟩ = some (.pointer (some ⟨p, 0, none⟩)) ∧ Below w.heap.size w W) (first | exact hS0 | assumption) (first | (go_at_call 46; refine (HSE.out _).mono ?_; rintro e w4 ⟨rfl, hb4⟩; have hs4 := keep_sd hb4 (by assumption); have R4 : Hid (Rd16 w c k r (.slice (some ⟨b1, o1, none⟩) c dcap) (.slice ba c bcap) t f vt (Ro.lostT c k C bf (row : Int) (off : Int) t) vi w4) := R3.out.kept ((Below.refl _ w3).drew.trans hb4); have hl4 : w.heap.size < w4.heap.size := R4.out.lt; clear hb4) | (go_at_call 45; refine (HRD.out _ (sd_low (by assumption))).mono ?_; rintro e w5 ⟨rfl, h5⟩; have h5' := h5.symm; subst h5'; clear h5))
            all_goals
              go_wp2
              go_ret3
              unfold RdYes
              rw [HS.out, if_pos rfl, if_pos rfl, if_pos rfl]
              exact ⟨⟨.slice none 0 0, .slice none 0 0, rfl, World.ownsRow_nil _ _ _ _, World.ownsRow_nil _ _ _ _⟩, R4.out.at5.2.2.2.2.2⟩
          · have v1 : ((E : Int) == 42) = false := by rw [beq_eq_false_iff_ne]; omega
            have HS : Hid (Ro.offT c k C bf (row : Int) (off : Int) (t + 1) = false) := by show _ = _; rw [hsucc, e1, beq_eq_false_iff_ne]; exact h42
            by_cases h0 : E = 0
            · have v2 : ((E : Int) != 0) = false := by rw [h0]; rfl
              have HL1 : Hid (Ro.lostT c k C bf (row : Int) (off : Int) (t + 1) = Ro.lostT c k C bf (row : Int) (off : Int) t) := Ro.lostT_no (by rw [e1]; exact h0)
              clear hfx hone hxx hsucc hm e1 e2 hE hX hrd hsc hC hG hp h42 h0
              go_wp2_with (first | (go_at_call 43; refine (HC.out _).mono ?_; rintro e w2 ⟨rfl, hb2⟩; have R2 : Hid (Rd16 w c k r (.slice (some ⟨b1, o1, none⟩) c dcap) (.slice ba c bcap) t f vt (Ro.lostT c k C bf (row : Int) (off : Int) t) vi w2) := HR.out.kept hb2; obtain ⟨m0, m1, m2, m3, m4, _⟩ := R2.out.at5; have hl2 : w.heap.size < w2.heap.size := R2.out.lt; clear hb2) | (go_at_call 44; refine (HM.out _ R2.out.at5.2.2.2.2.2).mono ?_; rintro e w3 ⟨rfl, hb3⟩; have R3 : Hid (Rd16 w c k r (.slice (some ⟨b1, o1, none⟩) c dcap) (.slice ba c bcap) t f vt (Ro.lostT c k C bf (row : Int) (off : Int) t) vi w3) := R2.out.kept hb3; obtain ⟨n0, n1, n2, n3, n4, _⟩ := R3.out.at5; have hl3 : w.heap.size < w3.heap.size := R3.out.lt; clear hb3))
              have hp3 := (R3.out.at5.2.2.2.2.2.cell (p := ⟨b1, o1 + z, none⟩) (World.block_lt_of_cell? w _ HP.out)).trans HP.out
              have hS0 : w3.drew.cell? ⟨w.heap.size, 0, none⟩ = some (.int .i64 (c : Int)) ∧ w3.drew.cell? ⟨w.heap.size, 1, none⟩ = some (.int .i64 (k : Int)) ∧ w3.drew.cell? ⟨w.heap.size, 2, none⟩ = some (.int .i64 (r : Int)) ∧ w3.drew.cell? ⟨w.heap.size, 3, none⟩ = some (.slice (some ⟨b1, o1, none⟩) c dcap) ∧ w3.drew.cell? ⟨w.heap.size, 4, none⟩ = some (.slice ba c bcap) ∧ w3.drew.cell? ⟨b1, o1 + z, none⟩ = some (.pointer (some ⟨p, 0, none⟩)) ∧ Below w.heap.size w w3.drew := ⟨R3.out.at5.1, R3.out.at5.2.1, R3.out.at5.2.2.1, R3.out.at5.2.2.2.1, R3.out.at5.2.2.2.2.1, hp3, R3.out.at5.2.2.2.2.2.drew⟩
              go_region_held3 (fun W => W.cell? ⟨w.heap.size, 0, none⟩ = some (.int .i64 (c : Int)) ∧ W.cell? ⟨w.heap.size, 1, none⟩ = some (.int .i64 (k : Int)) ∧ W.cell? ⟨w.heap.size, 2, none⟩ = some (.int .i64 (r : Int)) ∧ W.cell? ⟨w.heap.size, 3, none⟩ = some (.slice (some ⟨b1, o1, none⟩) c dcap) ∧ W.cell? ⟨w.heap.size, 4, none⟩ = some (.slice ba c bcap) ∧ W.cell? ⟨b1, o1 + z, none⟩ = some (.pointer (some ⟨p, 0, none⟩)) ∧ Below w.heap.size w W) (first | exact hS0 | assumption) (first | (go_at_call 46; refine (HSE.out _).mono ?_; rintro e w4 ⟨rfl, hb4⟩; have hs4 := keep_sd hb4 (by assumption); have R4 : Hid (Rd16 w c k r (.slice (some ⟨b1, o1, none⟩) c dcap) (.slice ba c bcap) t f vt (Ro.lostT c k C bf (row : Int) (off : Int) t) vi w4) := R3.out.kept ((Below.refl _ w3).drew.trans hb4); have hl4 : w.heap.size < w4.heap.size := R4.out.lt; clear hb4) | (go_at_call 45; refine (HRD.out _ (sd_low (by assumption))).mono ?_; rintro e w5 ⟨rfl, h5⟩; have h5' := h5.symm; subst h5'; clear h5))
              all_goals
                go_wp2_with (at_builtin; refine wpList_append_own _ rfl _ _ 40 rfl (w.heap.size + 1) 9 iS (.string ByteArray.empty) 1 16 Tryz.underlying40 s1 s2 s3 s4 rfl (by decide) vt t (textVals t f) rfl (R4.out.txt.alloc _) ⟨w4.heap.size, 0, none⟩ 1 1 [.string X] rfl rfl (cell_one_new _ _ _) (by simp [Value.oneCell']) (by unfold maxLen; omega) (by omega) (by simp; omega) ?_; go_loud (intro v6 w6 hown6 hgrow6 _; obtain ⟨g6, cap6, rfl⟩ := ownsRow_succ hown6))
                have R6 := R4.out.read (by rw [HX.out]; exact hown6) (by rw [HX.out]; exact hgrow6)
                go_roundg (c - (t + 1))
                case measure => omega
                case rel => exact ⟨t + 1, by omega, rfl, by go_num, by rw [HL1.out]; exact R6, HS.out⟩
            · have v2 : ((E : Int) != 0) = true := by rw [bne_iff_ne]; omega
              have HL1 : Hid (Ro.lostT c k C bf (row : Int) (off : Int) (t + 1) = Ro.lostT c k C bf (row : Int) (off : Int) t ++ [(t : Int)]) := Ro.lostT_yes (by rw [e1]; exact h0)
              clear hfx hone hxx hsucc hm e1 e2 hE hX hrd hsc hC hG hp h42 h0
              go_wp2_with (first | (go_at_call 43; refine (HC.out _).mono ?_; rintro e w2 ⟨rfl, hb2⟩; have R2 : Hid (Rd16 w c k r (.slice (some ⟨b1, o1, none⟩) c dcap) (.slice ba c bcap) t f vt (Ro.lostT c k C bf (row : Int) (off : Int) t) vi w2) := HR.out.kept hb2; obtain ⟨m0, m1, m2, m3, m4, _⟩ := R2.out.at5; have hl2 : w.heap.size < w2.heap.size := R2.out.lt; clear hb2) | (go_at_call 44; refine (HM.out _ R2.out.at5.2.2.2.2.2).mono ?_; rintro e w3 ⟨rfl, hb3⟩; have R3 : Hid (Rd16 w c k r (.slice (some ⟨b1, o1, none⟩) c dcap) (.slice ba c bcap) t f vt (Ro.lostT c k C bf (row : Int) (off : Int) t) vi w3) := R2.out.kept hb3; obtain ⟨n0, n1, n2, n3, n4, _⟩ := R3.out.at5; have hl3 : w.heap.size < w3.heap.size := R3.out.lt; clear hb3))
              have hp3 := (R3.out.at5.2.2.2.2.2.cell (p := ⟨b1, o1 + z, none⟩) (World.block_lt_of_cell? w _ HP.out)).trans HP.out
              have hS0 : w3.drew.cell? ⟨w.heap.size, 0, none⟩ = some (.int .i64 (c : Int)) ∧ w3.drew.cell? ⟨w.heap.size, 1, none⟩ = some (.int .i64 (k : Int)) ∧ w3.drew.cell? ⟨w.heap.size, 2, none⟩ = some (.int .i64 (r : Int)) ∧ w3.drew.cell? ⟨w.heap.size, 3, none⟩ = some (.slice (some ⟨b1, o1, none⟩) c dcap) ∧ w3.drew.cell? ⟨w.heap.size, 4, none⟩ = some (.slice ba c bcap) ∧ w3.drew.cell? ⟨b1, o1 + z, none⟩ = some (.pointer (some ⟨p, 0, none⟩)) ∧ Below w.heap.size w w3.drew := ⟨R3.out.at5.1, R3.out.at5.2.1, R3.out.at5.2.2.1, R3.out.at5.2.2.2.1, R3.out.at5.2.2.2.2.1, hp3, R3.out.at5.2.2.2.2.2.drew⟩
              go_region_held3 (fun W => W.cell? ⟨w.heap.size, 0, none⟩ = some (.int .i64 (c : Int)) ∧ W.cell? ⟨w.heap.size, 1, none⟩ = some (.int .i64 (k : Int)) ∧ W.cell? ⟨w.heap.size, 2, none⟩ = some (.int .i64 (r : Int)) ∧ W.cell? ⟨w.heap.size, 3, none⟩ = some (.slice (some ⟨b1, o1, none⟩) c dcap) ∧ W.cell? ⟨w.heap.size, 4, none⟩ = some (.slice ba c bcap) ∧ W.cell? ⟨b1, o1 + z, none⟩ = some (.pointer (some ⟨p, 0, none⟩)) ∧ Below w.heap.size w W) (first | exact hS0 | assumption) (first | (go_at_call 46; refine (HSE.out _).mono ?_; rintro e w4 ⟨rfl, hb4⟩; have hs4 := keep_sd hb4 (by assumption); have R4 : Hid (Rd16 w c k r (.slice (some ⟨b1, o1, none⟩) c dcap) (.slice ba c bcap) t f vt (Ro.lostT c k C bf (row : Int) (off : Int) t) vi w4) := R3.out.kept ((Below.refl _ w3).drew.trans hb4); have hl4 : w.heap.size < w4.heap.size := R4.out.lt; clear hb4) | (go_at_call 45; refine (HRD.out _ (sd_low (by assumption))).mono ?_; rintro e w5 ⟨rfl, h5⟩; have h5' := h5.symm; subst h5'; clear h5))
              all_goals
                have tk1 : True := trivial
                go_wp2_with (first | (at_builtin; have _t := tk1; refine wpList_append_own _ rfl _ _ 28 rfl (w.heap.size + 1) 3 i0 (.int .i64 0) 1 8 Tryz.underlying28 q1 q2 q3 q4 rfl (by decide) vi ln (iVs (Ro.lostT c k C bf (row : Int) (off : Int) t)) rfl ((OWI _ R4.out).alloc _) ⟨w4.heap.size, 0, none⟩ 1 1 [.int .i64 (t : Int)] rfl rfl (cell_one_new _ _ _) (by simp [Value.oneCell']) (by unfold maxLen; omega) (by omega) (by simp; omega) ?_; go_loud (intro v5 w5 hown5 hgrow5 _; obtain ⟨g5, cap5, rfl⟩ := ownsRow_succ hown5; have R5 : Hid (Rd16 w c k r (.slice (some ⟨b1, o1, none⟩) c dcap) (.slice ba c bcap) t f vt (Ro.lostT c k C bf (row : Int) (off : Int) t ++ [(t : Int)]) (.slice (some ⟨g5, 0, none⟩) (ln + 1) cap5) w5) := R4.out.more HLN.out hown5 hgrow5; have OWT5 : Hid (w5.ownsRow (w.heap.size + 1) 9 1 vt t (textVals t f)) := R5.out.txt; have hl5 : w.heap.size < w5.heap.size := R5.out.lt; clear _t tk1)) | (at_builtin; refine wpList_append_own _ rfl _ _ 40 rfl (w.heap.size + 1) 9 iS (.string ByteArray.empty) 1 16 Tryz.underlying40 s1 s2 s3 s4 rfl (by decide) vt t (textVals t f) rfl (OWT5.out.alloc _) ⟨w5.heap.size, 0, none⟩ 1 1 [.string X] rfl rfl (cell_one_new _ _ _) (by simp [Value.oneCell']) (by unfold maxLen; omega) (by omega) (by simp; omega) ?_; go_loud (intro v6 w6 hown6 hgrow6 _; obtain ⟨g6, cap6, rfl⟩ := ownsRow_succ hown6)))
                have R6 := R5.out.read (by rw [HX.out]; exact hown6) (by rw [HX.out]; exact hgrow6)
                go_roundg (c - (t + 1))
                case measure => omega
                case rel => exact ⟨t + 1, by omega, rfl, by go_num, by rw [HL1.out]; exact R6, HS.out⟩
    · have htc : t = c := by omega
      have HT : Hid (t = c) := htc
      have hx : ¬ (t : Int) < (c : Int) := by omega
      clear htc
      go_wp2
      go_ret3
      have ho := HO.out
      have r := HR.out
      rw [HT.out] at ho r
      unfold RdYes
      rw [ho, if_neg (by decide), if_neg (by decide), if_neg (by decide)]
      exact ⟨⟨vt, vi, rfl, row_low16 r.txt (Nat.le_succ _), row_low16 r.int (Nat.le_succ _)⟩, r.at5.2.2.2.2.2⟩
end
end Go.Proofs.YtdgkhjgnjfgnlaaGreat
namespace Go.Proofs.YtdgkhjgnjfgnlaaGreat
open Go.RowKit
attribute [local go_sem] Oper.semAt_some
def RdSays (w : World) (E n : Nat) (f : Nat → ByteArray) (l : List Int) (e : Ending) (w' : World) : Prop :=
 (∃ al cl ai ci, e = .returned (.tuple #[.slice al n cl, .slice ai l.length ci, .int .i64 (E : Int)]) ∧ RowS w' al n f ∧ n ≤ cl ∧ RowI .i64 w' ai l.length (fun j => l.getD j 0) ∧ l.length ≤ ci) ∧ Below w.heap.size w w'
theorem RdAns.says {w w' : World} {E n : Nat} {f : Nat → ByteArray} {l : List Int} {e : Ending} (h : RdAns w E n f l e w') : RdSays w E n f l e w' := by
 obtain ⟨⟨vl, vi, rfl, h1, h2⟩, hb⟩ := h
 obtain ⟨ai, ci, rfl, hi, _⟩ := RowI.of_owns (k := .i64) h2
 have hs : ∃ al cl, vl = .slice al n cl ∧ RowS w' al n f ∧ n ≤ cl := by
  rcases h1.2 with ⟨rfl, h0⟩ | ⟨g, cap, cur, rfl, _, hg, hn, _⟩
  ·subst h0; exact ⟨none, 0, rfl, RowS.nil _ _ _, Nat.le_refl _⟩
  ·refine ⟨some ⟨g, 0, none⟩, cap, rfl, fun j hj => ⟨g, 0, rfl, ?_⟩, hn⟩
   have := h1.cells (g := g) rfl j (.string (f j)) (textVals_at f hj)
   have hadd : (⟨g, 0, none⟩ : Addr).add j = ⟨g, 0 + j, none⟩ := by unfold Addr.add; split <;> simp_all
   rw [hadd] at this
   exact this
 obtain ⟨al, cl, rfl, hs1, hs2⟩ := hs
 have hci : l.length ≤ ci := by
  rcases h2.2 with ⟨e, h0⟩ | ⟨g, cap, cur, e, _, hg, hn, _⟩
  ·omega
  ·injection e with _ _ e3
   omega
 exact ⟨⟨al, cl, ai, ci, rfl, hs1, hs2, hi, hci⟩, hb⟩
section
variable {c k r : Nat} {da ba : Option Addr} {dn dcap bn bcap : Nat} {C : Nat → Ro.Col} {bf : Nat → Int}
theorem Ro.chk_yes {row off : Int} (h : Ro.chk c k r dn bn C row off = 0) : dn = c ∧ bn = c ∧ ((0 ≤ row ∧ row < (r : Int)) ∧ 0 ≤ off ∧ off < (k : Int)) ∧ ∀ i, i < c → Ro.fitB (4 + r * k) (C i) = true := by
 unfold Ro.chk at h
 split at h
 ·rename_i hm
  split at h
  ·rename_i hi
   unfold Ro.mayB at hm
   unfold Ro.inB at hi
   simp only [Bool.and_eq_true, decide_eq_true_eq, List.all_eq_true] at hm hi
   obtain ⟨h1, h2, h3⟩ := hm
   exact ⟨h1, h2, ⟨⟨hi.1, hi.2.1⟩, hi.2.2.1, hi.2.2.2⟩, fun i hi => h3 i (List.mem_range.2 (by omega))⟩
  ·cases h
 ·cases h
theorem rRead16_any (hok : Lay.ok (c : Int) (k : Int) (r : Int)) (hdn : dn ≤ 1000000) (row off : Int) (w : World) (h : RefSet w da dn ba bn C bf) :
  Calls Tryz.prog 13 #[.agg #[.int .i64 (c : Int), .int .i64 (k : Int), .int .i64 (r : Int), .slice da dn dcap, .slice ba bn bcap], .int .i64 row, .int .i64 off] w
   (RdSays w (Ro.readE c k r dn bn C bf row off) (Ro.readN c k r dn bn C bf row off) (Ro.oneX c k C bf row off) (Ro.readL c k r dn bn C bf row off)) := by
 by_cases hc : Ro.chk c k r dn bn C row off = 0
 ·have hy := Ro.chk_yes hc
  obtain ⟨h1, h2, ⟨⟨r1, r2⟩, o1, o2⟩, _⟩ := hy
  subst h1
  subst h2
  obtain ⟨R, rfl⟩ : ∃ R : Nat, row = (R : Int) := ⟨row.toNat, by omega⟩
  obtain ⟨O, rfl⟩ : ∃ O : Nat, off = (O : Int) := ⟨off.toNat, by omega⟩
  refine (rRead16_yes (dcap := dcap) (bcap := bcap) hok R O (by omega) w h hc).mono ?_
  intro e w' ha
  unfold RdYes at ha
  have hE : Ro.readE bn k r bn bn C bf (R : Int) (O : Int) = (if Ro.offT bn k C bf (R : Int) (O : Int) bn then 42 else 0) := by unfold Ro.readE; rw [if_pos hc]
  unfold Ro.readN Ro.readL
  rw [hE]
  cases hof : Ro.offT bn k C bf (R : Int) (O : Int) bn with
  | true =>
   rw [hof] at ha
   have h2 := ha.says
   rw [if_pos rfl, if_pos rfl, if_pos rfl] at h2
   rw [if_pos rfl, if_neg (by decide), if_neg (by decide)]
   obtain ⟨⟨al, cl, ai, ci, e1, _, _, q3, q4⟩, hb⟩ := h2
   exact ⟨⟨al, cl, ai, ci, e1, RowS.nil _ _ _, Nat.zero_le _, q3, q4⟩, hb⟩
  | false =>
   rw [hof] at ha
   have h2 := ha.says
   rw [if_neg (by decide), if_neg (by decide), if_neg (by decide)] at h2
   rw [if_neg (by decide), if_pos rfl, if_pos rfl]
   exact h2
 ·have hE : Ro.readE c k r dn bn C bf row off = Ro.chk c k r dn bn C row off := by unfold Ro.readE; rw [if_neg hc]
  unfold Ro.readN Ro.readL
  rw [hE, if_neg hc, if_neg hc]
  refine (rRead16_no (dcap := dcap) (bcap := bcap) hok hdn row off w h hc).mono ?_
  intro e w' ha
  obtain ⟨⟨al, cl, ai, ci, e1, _, _, q3, q4⟩, hb⟩ := ha.says
  exact ⟨⟨al, cl, ai, ci, e1, RowS.nil _ _ _, Nat.zero_le _, q3, q4⟩, hb⟩
end
end Go.Proofs.YtdgkhjgnjfgnlaaGreat
