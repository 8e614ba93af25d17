import Derived.Test.YtdgkhjgnjfgnlaaGreatRows
import Derived.Test.YtdgkhjgnjfgnlaaGreatMKitA
import Derived.Test.YtdgkhjgnjfgnlaaGreatMGfA
import Derived.RegionTactic
import Derived.ChangeAlike
import Derived.Test.YtdgkhjgnjfgnlaaGreatKitTexts
namespace Go.Proofs.YtdgkhjgnjfgnlaaGreat
open Go.RowKit
set_option maxRecDepth 100000 in
set_option maxHeartbeats 1000000 in
theorem Xor_long (s t : ByteArray) (hs : s.size ≤ maxLen) (h : t.size ≤ s.size) (w : World) :
    Calls Tryz.prog 148 #[.string s, .string t] w fun e w' => e = .returned (.string (Gfm.xorB s t)) ∧ Below w.heap.size w w' := by
  unfold maxLen at hs
  have hlt : ¬ (s.size : Int) < (t.size : Int) := by omega
  have hconv := fun w => run_bytes_of_string (P := Tryz.prog) w 9 109 5 s Tryz.underlying9 Tryz.underlying109 Tryz.underlying5
  have hcap := grownCap_ge w s.size 0 5
  have hrow := rowU_conv w s 5 _ hcap
  have hsl : s.data.toList.length = s.size := by simp
  have htl : t.data.toList.length = t.size := by simp
  have Hsl : Hid (s.data.toList.length = s.size) := hsl
  have Htl : Hid (t.data.toList.length = t.size) := htl
  clear hsl htl
  go_enter Tryz.func148, Tryz.ntmps148
  go_wp2
  go_loopw [18] (fun i wr => ∃ k : Nat, k ≤ t.size ∧ i = .int .i64 k ∧ rowU wr w.heap.size (Gfm.xorL s.data.toList (t.data.toList.take k)) ∧ Below w.heap.size w wr) (fun i _ => t.size - (intOf i).toNat)
  case atStart => exact ⟨0, by omega, rfl, by rw [List.take_zero, Gfm.xorL_nil]; exact hrow.drew, ((Below.refl _ _).alloc (Nat.le_refl _) _).drew⟩
  case round =>
    obtain ⟨k, hk, rfl, hr, hb⟩ := hrel
    clear hconv hrow
    by_cases hkt : k < t.size
    · have hl : (Gfm.xorL s.data.toList (t.data.toList.take k)).length = s.size := by
        rw [Gfm.xorL_length, List.length_take, Hsl.out, Htl.out]; omega
      obtain ⟨hc, hf⟩ := hr k (by omega)
      rw [Gfm.xorL_at] at hc
      obtain ⟨x, hx⟩ : ∃ x, x = s.data.toList.getD k 0 := ⟨_, rfl⟩
      rw [← hx] at hc
      have Hx : Hid (x = s.data.toList.getD k 0) := hx
      have Hr : Hid (rowU wr w.heap.size (Gfm.xorL s.data.toList (t.data.toList.take k))) := hr
      have Hl : Hid ((Gfm.xorL s.data.toList (t.data.toList.take k)).length = s.size) := hl
      have Hb : Hid (Below w.heap.size w wr) := hb
      clear hx hr hl hb
      go_wp2
      go_region
      go_wp2
      go_roundw
      case rel =>
        have hz : t.data.toList.getD k 0 = t[k] := by
          have hk' : k < t.data.toList.length := by rw [Htl.out]; exact hkt
          rw [List.getD_eq_getElem?_getD, List.getElem?_eq_getElem hk']; rfl
        refine ⟨k + 1, by omega, by go_num, ?_, (Hb.out.setCell (p := ⟨w.heap.size, k, none⟩) (Nat.le_refl _) _).drew⟩
        rw [← Gfm.xorL_step _ _ k (by rw [Htl.out]; exact hkt) (by rw [Hsl.out, Htl.out]; exact h), hz, ← Hx.out, u8_xor_nat _ _ x.toNat_lt t[k].toNat_lt, ← UInt8.toNat_xor]
        exact (Hr.out.set k (by rw [Hl.out]; omega) _).drew
      case measure => simp [intOf]; omega
    · have hkk : k = t.size := by omega
      have hl : (Gfm.xorL s.data.toList t.data.toList).length = s.size := by
        rw [Gfm.xorL_length, Hsl.out, Htl.out]; omega
      rw [hkk, List.take_of_length_le (by rw [Htl.out]; exact Nat.le_refl _)] at hr
      have hback := hr.back (P := Tryz.prog) 109 9 5 s.size (grownCap w s.size 0 5) hl Tryz.underlying109 Tryz.underlying5 Tryz.underlying9
      have Hb : Hid (Below w.heap.size w wr) := hb
      clear hr hl hb hkk
      go_wp2
      go_ret
      exact ⟨rfl, Hb.out⟩
set_option maxRecDepth 100000 in
set_option maxHeartbeats 1000000 in
theorem Xor_short (s t : ByteArray) (hs : s.size ≤ maxLen) (h : t.size < s.size) (w : World) :
    Calls Tryz.prog 148 #[.string t, .string s] w fun e w' => e = .returned (.string (Gfm.xorB s t)) ∧ Below w.heap.size w w' := by
  unfold maxLen at hs
  have hlt : (t.size : Int) < (s.size : Int) := by omega
  have hconv := fun w => run_bytes_of_string (P := Tryz.prog) w 9 109 5 s Tryz.underlying9 Tryz.underlying109 Tryz.underlying5
  have hcap := grownCap_ge w s.size 0 5
  have hrow := rowU_conv w s 5 _ hcap
  have hsl : s.data.toList.length = s.size := by simp
  have htl : t.data.toList.length = t.size := by simp
  have Hsl : Hid (s.data.toList.length = s.size) := hsl
  have Htl : Hid (t.data.toList.length = t.size) := htl
  clear hsl htl
  go_enter Tryz.func148, Tryz.ntmps148
  go_wp2
  go_loopw [18] (fun i wr => ∃ k : Nat, k ≤ t.size ∧ i = .int .i64 k ∧ rowU wr w.heap.size (Gfm.xorL s.data.toList (t.data.toList.take k)) ∧ Below w.heap.size w wr) (fun i _ => t.size - (intOf i).toNat)
  case atStart => exact ⟨0, by omega, rfl, by rw [List.take_zero, Gfm.xorL_nil]; exact hrow.drew, ((Below.refl _ _).alloc (Nat.le_refl _) _).drew⟩
  case round =>
    obtain ⟨k, hk, rfl, hr, hb⟩ := hrel
    clear hconv hrow
    by_cases hkt : k < t.size
    · have hl : (Gfm.xorL s.data.toList (t.data.toList.take k)).length = s.size := by
        rw [Gfm.xorL_length, List.length_take, Hsl.out, Htl.out]; omega
      obtain ⟨hc, hf⟩ := hr k (by omega)
      rw [Gfm.xorL_at] at hc
      obtain ⟨x, hx⟩ : ∃ x, x = s.data.toList.getD k 0 := ⟨_, rfl⟩
      rw [← hx] at hc
      have Hx : Hid (x = s.data.toList.getD k 0) := hx
      have Hr : Hid (rowU wr w.heap.size (Gfm.xorL s.data.toList (t.data.toList.take k))) := hr
      have Hl : Hid ((Gfm.xorL s.data.toList (t.data.toList.take k)).length = s.size) := hl
      have Hb : Hid (Below w.heap.size w wr) := hb
      clear hx hr hl hb
      go_wp2
      go_region
      go_wp2
      go_roundw
      case rel =>
        have hz : t.data.toList.getD k 0 = t[k] := by
          have hk' : k < t.data.toList.length := by rw [Htl.out]; exact hkt
          rw [List.getD_eq_getElem?_getD, List.getElem?_eq_getElem hk']; rfl
        refine ⟨k + 1, by omega, by go_num, ?_, (Hb.out.setCell (p := ⟨w.heap.size, k, none⟩) (Nat.le_refl _) _).drew⟩
        rw [← Gfm.xorL_step _ _ k (by rw [Htl.out]; exact hkt) (by rw [Hsl.out, Htl.out]; omega), hz, ← Hx.out, u8_xor_nat _ _ x.toNat_lt t[k].toNat_lt, ← UInt8.toNat_xor]
        exact (Hr.out.set k (by rw [Hl.out]; omega) _).drew
      case measure => simp [intOf]; omega
    · have hkk : k = t.size := by omega
      have hl : (Gfm.xorL s.data.toList t.data.toList).length = s.size := by
        rw [Gfm.xorL_length, Hsl.out, Htl.out]; omega
      rw [hkk, List.take_of_length_le (by rw [Htl.out]; exact Nat.le_refl _)] at hr
      have hback := hr.back (P := Tryz.prog) 109 9 5 s.size (grownCap w s.size 0 5) hl Tryz.underlying109 Tryz.underlying5 Tryz.underlying9
      have Hb : Hid (Below w.heap.size w wr) := hb
      clear hr hl hb hkk
      go_wp2
      go_ret
      exact ⟨rfl, Hb.out⟩
theorem Xor_any (s t : ByteArray) (hs : s.size ≤ maxLen) (ht : t.size ≤ maxLen) (w : World) :
  Calls Tryz.prog 148 #[.string s, .string t] w fun e w' => e = .returned (.string (Gfm.xorB s t)) ∧ Below w.heap.size w w' := by
 by_cases h : t.size ≤ s.size
 ·exact Xor_long s t hs h w
 ·refine (Xor_short t s ht (by omega) w).mono ?_
  rintro e w' ⟨rfl, hb⟩
  refine ⟨ret_string ?_, hb⟩
  unfold Gfm.xorB; rw [Gfm.xorL_comm]
end Go.Proofs.YtdgkhjgnjfgnlaaGreat
namespace Go.Proofs.YtdgkhjgnjfgnlaaGreat
open Go.RowKit
def Fits (B n : Nat) (f : Nat → ByteArray) : Prop := ∀ i, i < n → (f i).size ≤ B
theorem Fits.add {B n : Nat} {f : Nat → ByteArray} (h : Fits B n f) : (Gfm.addF n f).size ≤ B := Gfm.addF_le h
theorem Fits.qT {B n : Nat} {f : Nat → ByteArray} (h : Fits B n f) : Fits B n (Gfm.qT f) := fun i hi => by rw [Gfm.qT_size]; exact h i hi
theorem Fits.mono {B n m : Nat} {f : Nat → ByteArray} (h : Fits B n f) (hm : m ≤ n) : Fits B m f := fun i hi => h i (by omega)
set_option maxRecDepth 100000 in
set_option maxHeartbeats 1000000 in
theorem added_some (n : Nat) (f : Nat → ByteArray) (hn : n ≤ 1048576) (hf : Fits 1048576 n f) (b o cap : Nat) (w : World) (hr : RowS w (some ⟨b, o, none⟩) n f) :
  Calls Tryz.prog 142 #[.slice (some ⟨b, o, none⟩) n cap] w fun e w' => e = .returned (.string (Gfm.addF n f)) ∧ Below w.heap.size w w' := by
 go_enter Tryz.func142, Tryz.ntmps142
 go_wp2
 go_loopw [3, 8] (fun s i wr => ∃ k : Nat, k ≤ n ∧ i = .int .i64 k ∧ s = .string (Gfm.addF k f) ∧ Below w.heap.size w wr) (fun _ i _ => n - (intOf i).toNat)
 case atStart => exact ⟨0, by omega, rfl, rfl, Below.refl _ _⟩
 case round =>
  obtain ⟨k, hk, rfl, rfl, hb⟩ := hrel
  by_cases hkn : k < n
  ·have hc := hr.at hkn
   have hc := (hb.cell (p := ⟨b, o + k, none⟩) (World.block_lt_of_cell? w _ hc)).trans hc
   have h1 := hf k hkn
   have h2 := (hf.mono hk).add
   have Hs : Hid (Gfm.addF (k + 1) f = Gfm.xorB (Gfm.addF k f) (f k)) := rfl
   obtain ⟨x, hx⟩ : ∃ x, f k = x := ⟨_, rfl⟩
   obtain ⟨y, hy⟩ : ∃ y, Gfm.addF k f = y := ⟨_, rfl⟩
   rw [hx] at hc h1 Hs
   rw [hy] at h2 Hs
   rw [hy]
   have Hy : Hid (Gfm.addF k f = y) := hy
   clear hx hy
   go_wp2_with fail
   refine (Xor_any y x (by unfold maxLen; omega) (by unfold maxLen; omega) _).mono ?_
   rintro e w' ⟨rfl, hb'⟩
   have HB : Hid (Below w.heap.size w w') := hb.trans (hb'.mono hb.size)
   clear hb' hb hc
   go_wp2
   go_roundw
   case rel => exact ⟨k + 1, by omega, by go_num, by rw [Hs.out], HB.out⟩
   case measure => simp [intOf]; omega
  ·have hkk : k = n := by omega
   subst hkk
   go_wp2
   go_ret
   exact ⟨rfl, hb⟩
set_option maxRecDepth 100000 in
set_option maxHeartbeats 1000000 in
theorem added_none (f : Nat → ByteArray) (a : Option Addr) (cap : Nat) (w : World) :
  Calls Tryz.prog 142 #[.slice a 0 cap] w fun e w' => e = .returned (.string (Gfm.addF 0 f)) ∧ Below w.heap.size w w' := by
 go_enter Tryz.func142, Tryz.ntmps142
 go_wp2
 go_loopw [3, 8] (fun s i wr => i = .int .i64 0 ∧ s = .string (Gfm.addF 0 f) ∧ Below w.heap.size w wr) (fun _ i _ => 0 - (intOf i).toNat)
 case atStart => exact ⟨rfl, rfl, Below.refl _ _⟩
 case round =>
  obtain ⟨rfl, rfl, hb⟩ := hrel
  go_wp2
  go_ret
  exact ⟨rfl, hb⟩
theorem added_any (n : Nat) (f : Nat → ByteArray) (hn : n ≤ 1048576) (hf : Fits 1048576 n f) (a : Option Addr) (cap : Nat) (w : World) (hr : RowS w a n f) :
  Calls Tryz.prog 142 #[.slice a n cap] w fun e w' => e = .returned (.string (Gfm.addF n f)) ∧ Below w.heap.size w w' := by
 rcases hr.place with rfl | ⟨b, o, rfl⟩
 ·exact added_none f a cap w
 ·exact added_some n f hn hf b o cap w hr
set_option maxRecDepth 100000 in
set_option maxHeartbeats 1000000 in
theorem P_any (n : Nat) (f : Nat → ByteArray) (hn : n ≤ 1048576) (hf : Fits 1048576 n f) (a : Option Addr) (cap : Nat) (w : World) (hr : RowS w a n f) :
  Calls Tryz.prog 143 #[.slice a n cap] w fun e w' => e = .returned (.string (Gfm.addF n f)) ∧ Below w.heap.size w w' := by
 go_enter Tryz.func143, Tryz.ntmps143
 go_wp2_with fail
 refine (added_any n f hn hf a cap _ hr).mono ?_
 rintro e w' ⟨rfl, hb⟩
 go_wp2
 go_ret
 exact ⟨rfl, hb⟩
def two (s t : ByteArray) (i : Nat) : ByteArray := if i = 0 then s else t
theorem addF_two (s t : ByteArray) : Gfm.addF 2 (two s t) = Gfm.xorB s t := by
 show Gfm.xorB (Gfm.xorB ByteArray.empty s) t = _
 congr 1
theorem Fits.two {B : Nat} {s t : ByteArray} (hs : s.size ≤ B) (ht : t.size ≤ B) : Fits B 2 (two s t) := fun i _ => by
 unfold Go.Proofs.YtdgkhjgnjfgnlaaGreat.two; split <;> assumption
theorem RowS.two (w : World) (s t : ByteArray) (T : TypeId) : RowS (w.alloc (.cells #[.string s, .string t] T)) (some ⟨w.heap.size, 0, none⟩) 2 (two s t) :=
 RowS.new w 2 _ _ _ rfl
theorem added_two (s t : ByteArray) (hs : s.size ≤ 1048576) (ht : t.size ≤ 1048576) (T : TypeId) (w : World) :
  Calls Tryz.prog 142 #[.slice (some ⟨w.heap.size, 0, none⟩) 2 2] (w.alloc (.cells #[.string s, .string t] T)) fun e w' => e = .returned (.string (Gfm.xorB s t)) ∧ Below w.heap.size w w' := by
 refine (added_any 2 _ (by omega) (Fits.two hs ht) _ _ _ (RowS.two w s t T)).mono ?_
 rintro e w' ⟨rfl, hb⟩
 exact ⟨by rw [addF_two], ((Below.refl _ w).alloc (Nat.le_refl _) _).trans (hb.mono (by simp))⟩
end Go.Proofs.YtdgkhjgnjfgnlaaGreat
