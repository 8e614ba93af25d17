/- The walk of the row that the program lays, its lost columns blank. -/
import Derived.Test.YtjephdeolifbpaaShelf
import Derived.Test.YtjephdeolifbpaaRwEven
namespace Go.Proofs.Ytjephdeolifbpaa
open Go.RowKit

set_option maxHeartbeats 400000 in
theorem Clone_any (s : ByteArray) (hs : s.size ≤ 281474976710656) (w : World) :
    Calls Try.prog 36 #[.string s] w fun e w' => e = .returned (.string s) ∧ Below w.heap.size w w' := by
  go_enter Try.func36, Try.ntmps36
  go_wp2_with fail
  refine (Try.stringslite_Clone s _ hs).mono ?_
  rintro e w' ⟨rfl, hb⟩
  go_wp2
  go_ret
  exact ⟨rfl, hb⟩
/-- s bytes 0 -/
def Rf.zeroT (s : Nat) : ByteArray := ⟨(List.replicate s (0 : UInt8)).toArray⟩
theorem Rf.zeroT_size (s : Nat) : (Rf.zeroT s).size = s := by
  show (List.replicate s (0 : UInt8)).toArray.size = s
  rw [List.size_toArray, List.length_replicate]
theorem Rf.zeroT_byt (s t : Nat) : Gfm.byt (Rf.zeroT s) t = 0 := by
  unfold Rf.zeroT Gfm.byt
  rw [List.toList_toArray, List.getD_eq_getElem?_getD, List.getElem?_replicate]
  split <;> rfl
theorem repeat_zero (c : Nat) : Lib.repeatL [0] c = List.replicate c 0 := by
  induction c with
  | zero => rfl
  | succ c ih => show [0] ++ Lib.repeatL [0] c = _; rw [ih]; rfl
theorem Repeat_zeros (s : Nat) (hs : s ≤ 1048576) (w : World) :
    Calls Try.prog 35 #[.string { data := #[0] }, .int .i64 s] w fun e w' => e = .returned (.string (Rf.zeroT s)) ∧ Below w.heap.size w w' := by
  refine (Try.strings_Repeat { data := #[0] } s w (by omega) (by show 1 * s ≤ _; omega)).mono ?_
  rintro e w' ⟨rfl, hb⟩
  refine ⟨?_, hb⟩
  show Ending.returned (.string ⟨(Lib.repeatL [0] s).toArray⟩) = _
  rw [repeat_zero]; rfl
/-- the row with its lost columns blank -/
def Rf.blankF (f : Nat → ByteArray) (ln : Nat) (L : Nat → Int) (s i : Nat) : ByteArray := if Rf.hasF ln L (i : Int) then Rf.zeroT s else f i
theorem Rf.blankF_lost {f : Nat → ByteArray} {ln s i : Nat} {L : Nat → Int} (h : Rf.hasF ln L (i : Int) = true) : Rf.blankF f ln L s i = Rf.zeroT s := if_pos h
theorem Rf.blankF_kept {f : Nat → ByteArray} {ln s i : Nat} {L : Nat → Int} (h : Rf.hasF ln L (i : Int) = false) : Rf.blankF f ln L s i = f i := if_neg (by rw [h]; decide)
/-- .. as far as it is laid -/
def Rf.partF (F : Nat → ByteArray) (k i : Nat) : ByteArray := if i < k then F i else ByteArray.empty
theorem Rf.partF_step (F : Nat → ByteArray) (k : Nat) : Gfm.upd (Rf.partF F k) k (F k) = Rf.partF F (k + 1) := by
  funext i
  unfold Gfm.upd Rf.partF
  by_cases e : i = k
  · subst e; rw [if_pos rfl, if_pos (by omega)]
  · rw [if_neg e]
    by_cases h : i < k
    · rw [if_pos h, if_pos (by omega)]
    · rw [if_neg h, if_neg (by omega)]
theorem made_texts (n : Nat) (F : Nat → ByteArray) : (madeCells #[.string ByteArray.empty] n).toList = textVals n (Rf.partF F 0) := by
  refine List.ext_getElem? fun j => ?_
  by_cases h : j < n
  · rw [textVals_at _ h]
    simp [madeCells, h, Nat.mod_one, Rf.partF]
  · rw [List.getElem?_eq_none (by rw [Array.length_toList, size_madeCells]; omega), List.getElem?_eq_none (by rw [textVals_length]; omega)]

set_option maxRecDepth 100000 in
set_option maxHeartbeats 4000000 in
theorem blanked_any (n : Nat) (f : Nat → ByteArray) (hn : n ≤ 2000) (hf : Fits 1048576 n f) (a : Option Addr) (cap : Nat) (ln : Nat) (L : Nat → Int) (hln : ln ≤ 1000) (b : Option Addr) (capb : Nat) (w : World) (hr : RowS w a n f) (hl : RowI .i64 w b ln L) (h0 : 0 < (Rf.keptF f ln L n).length) :
    Calls Try.prog 20 #[.slice a n cap, .slice b ln capb] w fun e w' => ∃ g, e = .returned (.slice (some ⟨g, 0, none⟩) n n) ∧ w'.ownsRow w.heap.size 9 1 (.slice (some ⟨g, 0, none⟩) n n) n (textVals n (Rf.blankF f ln L (Rf.keptG f ln L n 0).size)) ∧ Below w.heap.size w w' := by
  have hK := kept_any n f hn hf a cap ln L (by omega) b capb w hr hl
  have hH := fun (x : Int) (W : World) (h : Below w.heap.size w W) => Contains_ints ln L (by omega) b capb x W (hl.below h)
  have hs0 := Rf.keptG_fits hf ln L 0 h0
  have hmk := run_make_row' (P := Try.prog) 22 9 (.string ByteArray.empty) 16 Try.underlying22 info_str rfl .i64 .i64 n (by omega) (by omega)
  obtain ⟨m, hm⟩ : ∃ m, (Rf.keptF f ln L n).length = m := ⟨_, rfl⟩
  obtain ⟨G, hG⟩ : ∃ G, Rf.keptG f ln L n = G := ⟨_, rfl⟩
  rw [hm] at h0 hK
  rw [hG] at hK hs0
  rw [hG]
  obtain ⟨x, hx⟩ : ∃ x, G 0 = x := ⟨_, rfl⟩
  rw [hx] at hs0
  rw [hx]
  obtain ⟨F, hF⟩ : ∃ F, Rf.blankF f ln L x.size = F := ⟨_, rfl⟩
  have HF : Hid (∀ i, F i = Rf.blankF f ln L x.size i) := fun i => by rw [hF]
  rw [hF]
  have HFS : Hid (∀ i, i < n → (F i).size ≤ 1048576) := fun i hi => by
    rw [HF.out]; unfold Rf.blankF; split
    · rw [Rf.zeroT_size]; exact hs0
    · exact hf i hi
  clear hm hG hF
  go_enter Try.func20, Try.ntmps20
  go_wp2_with fail
  refine hK.mono ?_
  rintro e w1 ⟨⟨gk, ck, rfl, rk, hck⟩, b1⟩
  obtain ⟨bk, ok, rfl, hc0⟩ := rk 0 h0
  rw [Nat.add_zero] at hc0
  rw [hx] at hc0
  have B1 : Hid (Below w.heap.size w w1) := b1
  have hsz1 := b1.size
  have OWN0 : Hid ((w1.alloc (.cells (madeCells #[.string ByteArray.empty] n) 9)).ownsRow w.heap.size 9 1 (.slice (some ⟨w1.heap.size, 0, none⟩) n n) n (textVals n (Rf.partF F 0))) := by
    have h := World.ownsRow_lit (base := w.heap.size) (e := 9) (size := 1) w1 (madeCells #[.string ByteArray.empty] n) n hsz1 (by unfold maxLen; omega) (by rw [size_madeCells]; omega)
    rw [made_texts n F] at h
    exact h
  clear hK hck rk hx b1
  go_wp2
  go_loopg [20] n (fun gg i wr => ∃ k : Nat, k ≤ n ∧ gg = n - k ∧ i = .int .i64 k ∧ wr.ownsRow w.heap.size 9 1 (.slice (some ⟨w1.heap.size, 0, none⟩) n n) n (textVals n (Rf.partF F k)) ∧ Below w.heap.size w wr)
  case atStart => exact ⟨0, Nat.zero_le _, rfl, rfl, OWN0.out, B1.out.alloc hsz1 _⟩
  case round =>
    obtain ⟨k, hk, rfl, rfl, own, hb⟩ := hrel
    have OWN : Hid (wr.ownsRow w.heap.size 9 1 (.slice (some ⟨w1.heap.size, 0, none⟩) n n) n (textVals n (Rf.partF F k))) := own
    have HB : Hid (Below w.heap.size w wr) := hb
    have hsz := hb.size
    clear own hb
    by_cases hkn : k < n
    · obtain ⟨b0, o0, rfl, hc⟩ := hr k hkn
      have hc := (HB.out.cell (p := ⟨b0, o0 + k, none⟩) (World.block_lt_of_cell? w _ hc)).trans hc
      have hxk := hf k hkn
      have hHk := hH (k : Int) wr HB.out
      obtain ⟨t, ht⟩ : ∃ t, f k = t := ⟨_, rfl⟩
      have HT : Hid (f k = t) := ht
      rw [ht] at hc hxk
      clear ht
      have hcl := fun (W : World) => Clone_any (F k) (Nat.le_trans (HFS.out k hkn) (by decide)) W
      have HOK : Hid (∀ W, Below wr.heap.size wr W → (W.setCell ⟨w1.heap.size, k, none⟩ (.string (F k))).ownsRow w.heap.size 9 1 (.slice (some ⟨w1.heap.size, 0, none⟩) n n) n (textVals n (Rf.partF F (k + 1)))) := fun W hW => by
        have h := ((ownsRow_below OWN.out hW).stored k (.string (F k))).1
        rw [textVals_set, Rf.partF_step] at h
        exact h
      have HFZ : Hid (∀ W, Below wr.heap.size wr W → W.frozen? ⟨w1.heap.size, k, none⟩ = false ∧ W.cell? ⟨w1.heap.size, k, none⟩ = some (.string (Rf.partF F k k))) := fun W hW => by
        have h := ownsRow_below OWN.out hW
        exact ⟨h.frozenAt k, by rw [h.cellAt k (by omega)]; exact textVals_at _ hkn⟩
      cases hh : Rf.hasF ln L (k : Int) with
      | true =>
        have EF : Hid (F k = Rf.zeroT x.size) := by show _ = _; rw [HF.out]; exact Rf.blankF_lost hh
        rw [hh] at hHk
        clear hh
        have hRp := fun W => Repeat_zeros x.size hs0 W
        rw [← EF.out] at hRp
        obtain ⟨y, hy⟩ : ∃ y, F k = y := ⟨_, rfl⟩
        rw [hy] at hRp hcl HOK
        clear hy
        go_wp2_with fail
        refine hHk.mono ?_
        rintro e w' ⟨rfl, hw⟩
        subst w'
        go_wp2_with fail
        refine (hRp _).mono ?_
        rintro e w2 ⟨rfl, b2⟩
        go_wp2_with fail
        refine (hcl _).mono ?_
        rintro e w3 ⟨rfl, b3⟩
        have B3 : Hid (Below wr.heap.size wr w3) := below2 b2 b3
        obtain ⟨hfz, hcz⟩ := HFZ.out w3 B3.out
        clear hRp hcl b2 b3
        go_wp2
        go_roundg (n - (k + 1))
        case measure => omega
        case rel => exact ⟨k + 1, by omega, rfl, by go_num, HOK.out w3 B3.out, (HB.out.trans (B3.out.mono hsz)).setCell (p := ⟨w1.heap.size, k, none⟩) hsz1 _⟩
      | false =>
        have EF : Hid (F k = t) := by show _ = _; rw [HF.out, Rf.blankF_kept hh]; exact HT.out
        rw [hh] at hHk
        clear hh
        rw [EF.out] at hcl HOK
        go_wp2_with fail
        refine hHk.mono ?_
        rintro e w' ⟨rfl, hw⟩
        subst w'
        go_wp2_with fail
        refine (hcl _).mono ?_
        rintro e w3 ⟨rfl, b3⟩
        have B3 : Hid (Below wr.heap.size wr w3) := b3
        obtain ⟨hfz, hcz⟩ := HFZ.out w3 B3.out
        clear hcl b3
        go_wp2
        go_roundg (n - (k + 1))
        case measure => omega
        case rel => exact ⟨k + 1, by omega, rfl, by go_num, HOK.out w3 B3.out, (HB.out.trans (B3.out.mono hsz)).setCell (p := ⟨w1.heap.size, k, none⟩) hsz1 _⟩
    · have hkk : k = n := by omega
      subst hkk
      have FIN : Hid (textVals k (Rf.partF F k) = textVals k F) := textVals_congr fun j hj => if_pos hj
      have own := OWN.out
      rw [FIN.out] at own
      have OWNE : Hid (wr.ownsRow w.heap.size 9 1 (.slice (some ⟨w1.heap.size, 0, none⟩) k k) k (textVals k F)) := own
      clear own
      go_wp2
      go_ret
      exact ⟨_, rfl, OWNE.out, HB.out⟩
end Go.Proofs.Ytjephdeolifbpaa
