/- The walk of the document's own answer for pack: unpacking. -/
import Derived.Test.YtinegeacpohlcaaRef03
namespace Go.Proofs.Ytinegeacpohlcaa
open Go.RowKit

theorem refEncode_any (l : List Nat) (ws : List Int) (hl : l.length ≤ maxLen) (hlen : ws.length ≤ maxLen) (hf : ∀ j, l.getD j 0 < 18446744073709551616) (a b : Option Addr) (ca cb : Nat) (w : World)
    (ha : RowI .u64 w a l.length (fun j => (l.getD j 0 : Nat))) (hb : RowI .i64 w b ws.length (fun j => ws.getD j 0)) :
    Calls Try.prog 22 #[.slice a l.length ca, .slice b ws.length cb] w fun e w' => e = .returned (.tuple #[.string (Pk.encS l ws), .int .i64 (Pk.encE l ws)]) ∧ Below w.heap.size w w' := by
  cases hok : Pk.okW ws with
  | false => exact refEncode_size l ws hok hlen a b _ ca cb w hb
  | true =>
    by_cases hc : l.length = ws.length
    · exact refEncode_fit l ws hok hc hf a b ca cb w ha hb
    · exact refEncode_count l ws hok hc hl a b ca cb w hb

set_option maxHeartbeats 400000 in
theorem refDecode_size (s : ByteArray) (ws : List Int) (hok : Pk.okW ws = false) (hlen : ws.length ≤ maxLen) (b : Option Addr) (cb : Nat) (w : World)
    (hb : RowI .i64 w b ws.length (fun j => ws.getD j 0)) :
    Calls Try.prog 28 #[.string s, .slice b ws.length cb] w (DecAns s.data.toList ws w) := by
  have hE1 := Pk.sizeE_no hok
  have E1 : Hid (Pk.decE s.data.toList ws = 1) := Pk.decE_size hok
  have E2 : Hid (Pk.dec s.data.toList ws = []) := Pk.dec_size hok
  go_enter Try.func28, Try.ntmps28
  go_wp2_with fail
  refine (refSize_any ws hlen b cb _ hb).mono ?_
  rintro e w' ⟨rfl, rfl⟩
  rw [hE1]
  go_wp2
  go_ret2
  exact ⟨none, 0, ret_two (by rw [E2.out]; rfl) (by rw [E1.out]; rfl), by rw [E2.out]; exact RowI.nil _ _ _ _, Below.refl _ _⟩

set_option maxHeartbeats 400000 in
theorem refDecode_short (s : ByteArray) (ws : List Int) (hok : Pk.okW ws = true) (hne : s.size ≠ Pk.offs ws ws.length) (_hs : s.size ≤ maxLen) (b : Option Addr) (cb : Nat) (w : World)
    (hb : RowI .i64 w b ws.length (fun j => ws.getD j 0)) :
    Calls Try.prog 28 #[.string s, .slice b ws.length cb] w (DecAns s.data.toList ws w) := by
  have hE1 := Pk.sizeE_yes hok
  have hN1 := Pk.sizeN_yes hok
  have h64 := Pk.okW_len hok
  have hoffs := Pk.offs_le hok (Nat.le_refl _)
  unfold maxLen at _hs
  have E1 : Hid (Pk.decE s.data.toList ws = 31) := Pk.decE_short hok (by simpa using hne)
  have E2 : Hid (Pk.dec s.data.toList ws = []) := Pk.dec_short (by simpa using hne)
  have hne2 : ((s.size : Int) == (Pk.offs ws ws.length : Nat)) = false := by rw [beq_eq_false_iff_ne]; omega
  go_enter Try.func28, Try.ntmps28
  go_wp2_with fail
  refine (refSize_any ws (by unfold maxLen; omega) b cb _ hb).mono ?_
  rintro e w' ⟨rfl, rfl⟩
  rw [hE1, hN1]
  go_wp2
  go_ret2
  exact ⟨none, 0, ret_two (by rw [E2.out]; rfl) (by rw [E1.out]; rfl), by rw [E2.out]; exact RowI.nil _ _ _ _, Below.refl _ _⟩

/-- the numbers ahead of number i -/
def Pk.decP (s : List UInt8) (ws : List Int) (i : Nat) : List Int := (List.range i).map fun j => ((Pk.num s (Pk.offs ws j) (Pk.wd ws j) : Nat) : Int)
theorem Pk.decP_succ (s : List UInt8) (ws : List Int) (i : Nat) : Pk.decP s ws (i + 1) = Pk.decP s ws i ++ [((Pk.num s (Pk.offs ws i) (Pk.wd ws i) : Nat) : Int)] := by simp [Pk.decP, List.range_succ]

set_option maxRecDepth 100000 in
set_option maxHeartbeats 2000000 in
theorem refDecode_yes (s : ByteArray) (ws : List Int) (hok : Pk.okW ws = true) (hsz : s.size = Pk.offs ws ws.length) (b : Option Addr) (cb : Nat) (w : World)
    (hb : RowI .i64 w b ws.length (fun j => ws.getD j 0)) :
    Calls Try.prog 28 #[.string s, .slice b ws.length cb] w (DecAns s.data.toList ws w) := by
  have hE1 := Pk.sizeE_yes hok
  have hN1 := Pk.sizeN_yes hok
  have h64 := Pk.okW_len hok
  have hoffs : ∀ i, i ≤ ws.length → _ := fun i hi => Pk.offs_le hok hi
  have hat : ∀ k, k < ws.length → _ := fun k hk => Pk.wd_le hok hk
  have hsl : s.data.toList.length = Pk.offs ws ws.length := by simpa using hsz
  have E1 : Hid (Pk.decE s.data.toList ws = 0) := Pk.decE_yes hok hsl
  have E2 : Hid ((Pk.dec s.data.toList ws).length = ws.length) := Pk.dec_length hok hsl
  have E3 : Hid (∀ i, i < ws.length → (Pk.dec s.data.toList ws).getD i 0 = Pk.num s.data.toList (Pk.offs ws i) (Pk.wd ws i)) := fun i hi => Pk.dec_at hok hsl hi
  have hne2 : ((s.size : Int) == (Pk.offs ws ws.length : Nat)) = true := by rw [hsz]; simp
  have Hsz : Hid (s.size = Pk.offs ws ws.length) := hsz
  obtain ⟨m, hm0⟩ : ∃ m, m = ws.length := ⟨_, rfl⟩
  have Hm : Hid (m = ws.length) := hm0
  have hrs := refSize_any ws (by unfold maxLen; omega) b cb w hb
  rw [← hm0] at h64 hb hrs hne2 hN1 ⊢
  have Hrs : Hid (Calls Try.prog 40 #[.slice b m cb] w fun e w' => e = .returned (.tuple #[.int .i64 (Pk.sizeN ws), .int .i64 (Pk.sizeE ws)]) ∧ w' = w) := hrs
  obtain ⟨i0, hi, hz0, hz1, hz2⟩ := info_parts (show (Try.prog.info? 22).map (fun i => (i.zero, i.size, i.bytes)) = some (some (.int .u64 0), 1, 8) by kernel_rfl)
  clear hsz hsl hm0 hrs hok
  go_enter Try.func28, Try.ntmps28
  go_wp2_with fail
  refine Hrs.out.mono ?_
  rintro e w' ⟨rfl, rfl⟩
  rw [hE1, hN1]
  go_wp2
  go_loopw [8, 9, 10] (fun o p i wr => ∃ k : Nat, k ≤ m ∧ i = .int .i64 k ∧ p = .int .i64 (Pk.offs ws k : Nat) ∧ wr.ownsRow w'.heap.size 22 1 o k ((Pk.decP s.data.toList ws k).map (Value.int .u64)) ∧ Below w'.heap.size w' wr) (fun _ _ i _ => m - (intOf i).toNat)
  case atStart =>
    exact ⟨0, Nat.zero_le _, rfl, rfl, World.ownsRow_made (base := w'.heap.size) (e := 22) (size := 1) w' #[] 0 (Nat.le_refl _) (by decide) rfl, (Below.refl _ _).alloc (Nat.le_refl _) _⟩
  case round =>
    obtain ⟨k, hk, rfl, rfl, hown, hB⟩ := hrel
    have Hown : Hid (wr.ownsRow w'.heap.size 22 1 u8 k ((Pk.decP s.data.toList ws k).map (Value.int .u64))) := hown
    have HB : Hid (Below w'.heap.size w' wr) := hB
    have hBs := hB.size
    by_cases hlt : k < m
    · obtain ⟨b2, o2, rfl, hc2'⟩ := hb k hlt
      have hb2 := World.block_lt_of_cell? w' _ hc2'
      obtain ⟨g1, g8, gx⟩ := hat k (by rw [← Hm.out]; exact hlt)
      have hok8 := hoffs k (by rw [← Hm.out]; omega)
      have hend : Pk.offs ws k + Pk.wd ws k ≤ s.size := by rw [Hsz.out]; exact Pk.offs_mono ws (show k + 1 ≤ ws.length by rw [← Hm.out]; exact hlt)
      obtain ⟨x, hx⟩ : ∃ x, Pk.wd ws k = x := ⟨_, rfl⟩
      obtain ⟨o8, ho8⟩ : ∃ o8, Pk.offs ws k = o8 := ⟨_, rfl⟩
      rw [hx] at g1 g8 gx
      rw [hx, ho8] at hend
      rw [ho8] at hok8 ⊢
      simp only [← gx] at hc2'
      have hc2 := (hB.cell (p := ⟨b2, o2 + k, none⟩) hb2).trans hc2'
      have Hx : Hid (Pk.wd ws k = x) := hx
      have Ho8 : Hid (Pk.offs ws k = o8) := ho8
      clear hx gx ho8 hB
      go_wp2
      go_loop [11, 12] (fun v t => ∃ j X : Nat, j ≤ x ∧ t = .int .i64 j ∧ v = .int .u64 X ∧ X = Pk.num s.data.toList o8 j) (fun _ t => x - (intOf t).toNat)
      case atStart => exact ⟨0, 0, Nat.zero_le _, rfl, rfl, rfl⟩
      case round =>
        obtain ⟨j, X, hj, rfl, rfl, hX⟩ := hrel
        by_cases hjx : j < x
        · have hin : o8 + j < s.size := by omega
          have hX64 : X < 18446744073709551616 := by rw [hX]; exact Nat.lt_of_lt_of_le (Pk.num_lt _ _ _) (Pk.pow256_le (by omega))
          have hor := Pk.or_byte X (s[o8 + j]) j hX64 (by omega)
          have HX : Hid (X ||| s[o8 + j].toNat <<< (8 * j) = Pk.num s.data.toList o8 (j + 1)) := by
            show _ = _
            rw [← Pk.num_or, hX, List.getD_eq_getElem?_getD, List.getElem?_eq_getElem (by simpa using hin)]; rfl
          clear hX
          go_wp2
          go_round
          case rel => exact ⟨j + 1, _, by omega, by go_num, rfl, HX.out⟩
          case measure => simp [intOf]; omega
        · have hjx' : j = x := by omega
          have HX : Hid (X = Pk.num s.data.toList (Pk.offs ws k) (Pk.wd ws k)) := by show _ = _; rw [hX, Ho8.out, Hx.out, hjx']
          have hk64 : k ≤ 64 := by omega
          clear hX hjx'
          go_wp2_with (at_builtin; refine wpList_append_own _ rfl _ _ 49 rfl w'.heap.size 22 i0 (.int .u64 0) 1 8 Try.underlying49 hi hz0 hz1 hz2 rfl (by decide) u8 k ((Pk.decP s.data.toList ws k).map (Value.int .u64)) rfl (Hown.out.alloc _) ⟨wr.heap.size, 0, none⟩ 1 1 [.int .u64 (X : Nat)] rfl rfl (cell_one_new _ _ _) (by simp [Value.oneCell']) (by unfold maxLen; omega) (by omega) (by simp; omega) ?_; intro v' w1 hown' hgrow _; obtain ⟨g', cap', rfl⟩ := ownsRow_succ hown'; have hb1' := below_append Hown.out hBs hgrow; have hcc1 := (hb1'.cell (p := ⟨b2, o2 + k, none⟩) hb2).trans hc2)
          go_roundw
          case rel =>
            have e : Pk.offs ws (k + 1) = o8 + x := by show Pk.offs ws k + Pk.wd ws k = _; rw [Ho8.out, Hx.out]
            have hr : ∃ k_1 : Nat, k_1 ≤ m ∧ Value.int .i64 ((k : Int) + 1) = Value.int .i64 (k_1 : Int) ∧ Value.int .i64 ((o8 : Int) + (x : Int)) = Value.int .i64 (Pk.offs ws k_1 : Nat) ∧ w1.ownsRow w'.heap.size 22 1 (.slice (some ⟨g', 0, none⟩) (k + 1) cap') k_1 ((Pk.decP s.data.toList ws k_1).map (Value.int .u64)) ∧ Below w'.heap.size w' w1 :=
              ⟨k + 1, by omega, by go_num, by rw [e]; go_num, by rw [Pk.decP_succ, ← map_snoc, ← HX.out]; exact hown', HB.out.trans hb1'⟩
            first | exact hr | ((repeat apply Exists.intro); exact ⟨hr, rfl, rfl, rfl⟩)
          case measure => simp [intOf]; omega
    · have hkm : k = m := by omega
      subst hkm
      obtain ⟨a, cap, rfl, hrow, _⟩ := RowI.of_owns hown
      clear hB
      go_wp2
      go_ret2
      refine ⟨a, cap, ret_two (by rw [E2.out, ← Hm.out]; rfl) (by rw [E1.out]; rfl), ?_, HB.out⟩
      rw [E2.out, ← Hm.out]
      refine hrow.mono (Nat.le_refl _) fun j hj => ?_
      rw [E3.out j (by rw [← Hm.out]; exact hj)]
      simp [Pk.decP, hj]

theorem refDecode_any (s : ByteArray) (ws : List Int) (hs : s.size ≤ maxLen) (hlen : ws.length ≤ maxLen) (b : Option Addr) (cb : Nat) (w : World)
    (hb : RowI .i64 w b ws.length (fun j => ws.getD j 0)) :
    Calls Try.prog 28 #[.string s, .slice b ws.length cb] w (DecAns s.data.toList ws w) := by
  cases hok : Pk.okW ws with
  | false => exact refDecode_size s ws hok hlen b cb w hb
  | true =>
    by_cases hc : s.size = Pk.offs ws ws.length
    · exact refDecode_yes s ws hok hc b cb w hb
    · exact refDecode_short s ws hok hc hs b cb w hb

theorem Pk.sh_enc : Pk.encS [1, 515] [1, 2] = ⟨#[1, 3, 2]⟩ := by decide +kernel
theorem Pk.sh_encE : Pk.encE [1, 515] [1, 2] = 0 := by decide +kernel
theorem Pk.sh_fits : Pk.fits 255 1 = true := by decide +kernel

end Go.Proofs.Ytinegeacpohlcaa
