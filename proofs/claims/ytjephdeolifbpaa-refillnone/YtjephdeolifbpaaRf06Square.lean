/- Columns of one length, made of any. -/
import Derived.Test.YtjephdeolifbpaaRf06
namespace Go.Proofs.Ytjephdeolifbpaa
open Go.RowKit

/-- a text's first twelve bytes, bytes 0 behind it -/
def sqB (s : ByteArray) : ByteArray := ⟨(bl 12 (Gfm.byt s)).toArray⟩
def sqF (n0 : Nat) (f : Nat → ByteArray) (i : Nat) : ByteArray := sqB (if i < n0 then f i else ByteArray.empty)
theorem sqF_size (n0 : Nat) (f : Nat → ByteArray) (i : Nat) : (sqF n0 f i).size = 12 := by
  unfold sqF sqB
  show (bl _ _).toArray.size = 12
  rw [List.size_toArray, bl_length]
theorem Fits.sq (n0 n : Nat) (f : Nat → ByteArray) : Fits 1048576 n (sqF n0 f) := fun i _ => by rw [sqF_size]; decide

set_option maxRecDepth 100000 in
set_option maxHeartbeats 8000000 in
theorem square_any (n0 : Nat) (f : Nat → ByteArray) (h0 : n0 ≤ 1000) (a : Option Addr) (cap0 : Nat) (n : Nat) (hn : n ≤ 1000) (hf : ∀ i, i < n0 → (f i).size ≤ 1048576) (w : World) (hr : RowS w a n0 f) :
    Calls Try.prog 18 #[.slice a n0 cap0, .int .i64 (n : Int)] w fun e w' =>
      (∃ g c, e = .returned (.slice (some ⟨g, 0, none⟩) n c) ∧ w'.ownsRow w.heap.size 9 1 (.slice (some ⟨g, 0, none⟩) n c) n (textVals n (sqF n0 f))) ∧ Below w.heap.size w w' := by
  have HR : Hid (RowS w a n0 f) := hr
  obtain ⟨i0, hi, hz0, hz1, hz2⟩ := info_parts (show (Try.prog.info? 5).map (fun i => (i.zero, i.size, i.bytes)) = some (some (.int .u8 0), 1, 1) from info_u8)
  clear hr
  go_enter Try.func18, Try.ntmps18
  go_wp2
  go_loopg [5, 6, 7, 8, 9, 10] n (fun gg u x _ _ _ _ wr => ∃ (i go co : Nat), i ≤ n ∧ gg = n - i ∧ u = .slice (some ⟨go, 0, none⟩) i co ∧ x = .int .i64 i ∧ wr.ownsRow w.heap.size 9 1 (.slice (some ⟨go, 0, none⟩) i co) i (textVals i (sqF n0 f)) ∧ Below w.heap.size w wr)
  case atStart => exact ⟨0, w.heap.size, 0, by omega, rfl, rfl, rfl, World.ownsRow_made w #[] 0 (Nat.le_refl _) (by decide) rfl, (Below.refl _ _).alloc (Nat.le_refl _) _⟩
  case round =>
    obtain ⟨i, go, co, hin, rfl, rfl, rfl, ow, hb⟩ := hrel
    obtain ⟨wO, hO⟩ : ∃ wO, wO = wr := ⟨_, rfl⟩
    subst hO
    have OW : Hid (wO.ownsRow w.heap.size 9 1 (.slice (some ⟨go, 0, none⟩) i co) i (textVals i (sqF n0 f))) := ow
    have HB : Hid (Below w.heap.size w wO) := hb
    have hsz := hb.size
    clear ow hb
    by_cases hil : i < n
    · by_cases hi0 : i < n0
      · obtain ⟨b0, o0, rfl, hc⟩ := HR.out i hi0
        have hc := (HB.out.cell (p := ⟨b0, o0 + i, none⟩) (World.block_lt_of_cell? w _ hc)).trans hc
        have hss := hf i hi0
        obtain ⟨s, hs⟩ : ∃ s, f i = s := ⟨_, rfl⟩
        rw [hs] at hc hss
        have HSI : Hid ((if i < n0 then f i else ByteArray.empty) = s) := by show _ = _; rw [if_pos hi0, hs]
        clear hs
        go_wp2
        go_loopg [8, 9, 10] 12 (fun gg u x _ wr => ∃ (k gb cb : Nat), k ≤ 12 ∧ gg = 12 - k ∧ u = .slice (some ⟨gb, 0, none⟩) k cb ∧ x = .int .i64 k ∧ wr.ownsRow wO.heap.size 5 1 (.slice (some ⟨gb, 0, none⟩) k cb) k (byteVals (bl k (Gfm.byt s))) ∧ Below wO.heap.size wO wr)
        case atStart => exact ⟨0, wO.heap.size, 0, by omega, rfl, rfl, rfl, World.ownsRow_made wO #[] 0 (Nat.le_refl _) (by decide) rfl, (Below.refl _ _).alloc (Nat.le_refl _) _⟩
        case round =>
          obtain ⟨k, gb, cb, hk, rfl, rfl, rfl, ob, hb⟩ := hrel
          have OBk : Hid (wr.ownsRow wO.heap.size 5 1 (.slice (some ⟨gb, 0, none⟩) k cb) k (byteVals (bl k (Gfm.byt s)))) := ob
          have HBk : Hid (Below wO.heap.size wO wr) := hb
          have hszk := hb.size
          clear ob hb
          by_cases hk12 : k < 12
          · have t1 : True := trivial
            by_cases hks : k < s.size
            · have HV : Hid (Gfm.byt s k = s[k]) := byte_at hks
              have hsl := s[k].toNat_lt
              go_wp2_with (at_builtin; have _t := t1; refine wpList_append_lies _ rfl _ _ 36 rfl wO.heap.size 5 i0 (.int .u8 0) 1 1 Try.underlying36 hi hz0 hz1 hz2 rfl (by decide) (.slice (some ⟨gb, 0, none⟩) k cb) k (byteVals (bl k (Gfm.byt s))) rfl (OBk.out.alloc _) ⟨wr.heap.size, 0, none⟩ 1 1 [.int .u8 ((s[k] : UInt8).toNat : Int)] rfl rfl (cell_one_new _ _ _) (by simp [Value.oneCell']) (by decide) (by unfold maxLen; omega) (by omega) (by simp; omega) _ rfl ?_; intro g1 c1 w3 own3 grow3 lies3 lt3; rw [byteVals_snoc, ← HV.out, bl_snoc] at own3; (have OB3 : Hid (w3.ownsRow wO.heap.size 5 1 (.slice (some ⟨g1, 0, none⟩) (k + 1) c1) (k + 1) (byteVals (bl (k + 1) (Gfm.byt s)))) := own3); (have HB3 : Hid (Below wO.heap.size wO w3) := HBk.out.trans (below_append OBk.out hszk grow3)); clear own3 grow3 lies3 lt3 t1)
              go_roundg (12 - (k + 1))
              case measure => omega
              case rel => exact ⟨k + 1, g1, c1, by omega, rfl, rfl, by go_num, OB3.out, HB3.out⟩
            · have HV : Hid (Gfm.byt s k = 0) := Gfm.byt_past (by omega)
              go_wp2_with (at_builtin; have _t := t1; refine wpList_append_lies _ rfl _ _ 36 rfl wO.heap.size 5 i0 (.int .u8 0) 1 1 Try.underlying36 hi hz0 hz1 hz2 rfl (by decide) (.slice (some ⟨gb, 0, none⟩) k cb) k (byteVals (bl k (Gfm.byt s))) rfl (OBk.out.alloc _) ⟨wr.heap.size, 0, none⟩ 1 1 [.int .u8 (((0 : UInt8).toNat : Nat) : Int)] rfl rfl (cell_one_new _ _ _) (by simp [Value.oneCell']) (by decide) (by unfold maxLen; omega) (by omega) (by simp; omega) _ rfl ?_; intro g1 c1 w3 own3 grow3 lies3 lt3; rw [byteVals_snoc, ← HV.out, bl_snoc] at own3; (have OB3 : Hid (w3.ownsRow wO.heap.size 5 1 (.slice (some ⟨g1, 0, none⟩) (k + 1) c1) (k + 1) (byteVals (bl (k + 1) (Gfm.byt s)))) := own3); (have HB3 : Hid (Below wO.heap.size wO w3) := HBk.out.trans (below_append OBk.out hszk grow3)); clear own3 grow3 lies3 lt3 t1)
              go_roundg (12 - (k + 1))
              case measure => omega
              case rel => exact ⟨k + 1, g1, c1, by omega, rfl, rfl, by go_num, OB3.out, HB3.out⟩
          · have hkk : k = 12 := by omega
            subst hkk
            have hcv := ownsBytes_back (P := Try.prog) OBk.out 36 9 5 Try.underlying36 Try.underlying5 Try.underlying9
            obtain ⟨y, hy⟩ : ∃ y, (⟨(bl 12 (Gfm.byt s)).toArray⟩ : ByteArray) = y := ⟨_, rfl⟩
            rw [hy] at hcv
            have HSY : Hid (sqF n0 f i = y) := by show _ = _; unfold sqF; rw [HSI.out, ← hy]; rfl
            have OW2 : Hid (wr.ownsRow w.heap.size 9 1 (.slice (some ⟨go, 0, none⟩) i co) i (textVals i (sqF n0 f))) := ownsRow_below OW.out HBk.out
            have HB2 : Hid (Below w.heap.size w wr) := HB.out.trans (HBk.out.mono HB.out.size)
            have hsz2 := HB2.out.size
            have ONE3 : Hid (RowS (wr.alloc (.cells #[.string y] 9)) (some ⟨wr.heap.size, 0, none⟩) 1 (fun _ => y)) := RowS.one _ _ rfl _ _
            have t1 : True := trivial
            clear hy
            go_wp2_with (at_builtin; have _t := t1; refine wpList_append_texts _ rfl _ _ rfl w.heap.size go i co (sqF n0 f) rfl (OW2.out.alloc _) (some ⟨wr.heap.size, 0, none⟩) 1 1 (fun _ => y) rfl ONE3.out (by omega) (by simp; omega) ?_; intro g3 c3 w4 own4 grow4 lies4; rw [textVals_joinOne i (sqF n0 f) y HSY.out] at own4; (have OWN4 : Hid (w4.ownsRow w.heap.size 9 1 (.slice (some ⟨g3, 0, none⟩) (i + 1) c3) (i + 1) (textVals (i + 1) (sqF n0 f))) := own4); (have B4 : Hid (Below w.heap.size w w4) := below_joined (HB2.out.alloc hsz2 _) (by simp; omega) (OW2.out.alloc _) grow4); clear own4 grow4 lies4 t1)
            go_roundg (n - (i + 1))
            case measure => omega
            case rel => exact ⟨i + 1, g3, c3, by omega, rfl, rfl, by go_num, OWN4.out, B4.out⟩
      · obtain ⟨s, hs⟩ : ∃ s : ByteArray, s = ByteArray.empty := ⟨_, rfl⟩
        have hss : s.size ≤ 1048576 := by rw [hs]; decide
        have HSI : Hid ((if i < n0 then f i else ByteArray.empty) = s) := by show _ = _; rw [if_neg hi0, hs]
        have HES : Hid ((⟨#[]⟩ : ByteArray) = s) := by show _ = _; rw [hs]; rfl
        clear hs
        go_wp2_with fail
        rw [HES.out]
        go_loopg [8, 9, 10] 12 (fun gg u x _ wr => ∃ (k gb cb : Nat), k ≤ 12 ∧ gg = 12 - k ∧ u = .slice (some ⟨gb, 0, none⟩) k cb ∧ x = .int .i64 k ∧ wr.ownsRow wO.heap.size 5 1 (.slice (some ⟨gb, 0, none⟩) k cb) k (byteVals (bl k (Gfm.byt s))) ∧ Below wO.heap.size wO wr)
        case atStart => exact ⟨0, wO.heap.size, 0, by omega, rfl, rfl, rfl, World.ownsRow_made wO #[] 0 (Nat.le_refl _) (by decide) rfl, (Below.refl _ _).alloc (Nat.le_refl _) _⟩
        case round =>
          obtain ⟨k, gb, cb, hk, rfl, rfl, rfl, ob, hb⟩ := hrel
          have OBk : Hid (wr.ownsRow wO.heap.size 5 1 (.slice (some ⟨gb, 0, none⟩) k cb) k (byteVals (bl k (Gfm.byt s)))) := ob
          have HBk : Hid (Below wO.heap.size wO wr) := hb
          have hszk := hb.size
          clear ob hb
          by_cases hk12 : k < 12
          · have t1 : True := trivial
            by_cases hks : k < s.size
            · have HV : Hid (Gfm.byt s k = s[k]) := byte_at hks
              have hsl := s[k].toNat_lt
              go_wp2_with (at_builtin; have _t := t1; refine wpList_append_lies _ rfl _ _ 36 rfl wO.heap.size 5 i0 (.int .u8 0) 1 1 Try.underlying36 hi hz0 hz1 hz2 rfl (by decide) (.slice (some ⟨gb, 0, none⟩) k cb) k (byteVals (bl k (Gfm.byt s))) rfl (OBk.out.alloc _) ⟨wr.heap.size, 0, none⟩ 1 1 [.int .u8 ((s[k] : UInt8).toNat : Int)] rfl rfl (cell_one_new _ _ _) (by simp [Value.oneCell']) (by decide) (by unfold maxLen; omega) (by omega) (by simp; omega) _ rfl ?_; intro g1 c1 w3 own3 grow3 lies3 lt3; rw [byteVals_snoc, ← HV.out, bl_snoc] at own3; (have OB3 : Hid (w3.ownsRow wO.heap.size 5 1 (.slice (some ⟨g1, 0, none⟩) (k + 1) c1) (k + 1) (byteVals (bl (k + 1) (Gfm.byt s)))) := own3); (have HB3 : Hid (Below wO.heap.size wO w3) := HBk.out.trans (below_append OBk.out hszk grow3)); clear own3 grow3 lies3 lt3 t1)
              go_roundg (12 - (k + 1))
              case measure => omega
              case rel => exact ⟨k + 1, g1, c1, by omega, rfl, rfl, by go_num, OB3.out, HB3.out⟩
            · have HV : Hid (Gfm.byt s k = 0) := Gfm.byt_past (by omega)
              go_wp2_with (at_builtin; have _t := t1; refine wpList_append_lies _ rfl _ _ 36 rfl wO.heap.size 5 i0 (.int .u8 0) 1 1 Try.underlying36 hi hz0 hz1 hz2 rfl (by decide) (.slice (some ⟨gb, 0, none⟩) k cb) k (byteVals (bl k (Gfm.byt s))) rfl (OBk.out.alloc _) ⟨wr.heap.size, 0, none⟩ 1 1 [.int .u8 (((0 : UInt8).toNat : Nat) : Int)] rfl rfl (cell_one_new _ _ _) (by simp [Value.oneCell']) (by decide) (by unfold maxLen; omega) (by omega) (by simp; omega) _ rfl ?_; intro g1 c1 w3 own3 grow3 lies3 lt3; rw [byteVals_snoc, ← HV.out, bl_snoc] at own3; (have OB3 : Hid (w3.ownsRow wO.heap.size 5 1 (.slice (some ⟨g1, 0, none⟩) (k + 1) c1) (k + 1) (byteVals (bl (k + 1) (Gfm.byt s)))) := own3); (have HB3 : Hid (Below wO.heap.size wO w3) := HBk.out.trans (below_append OBk.out hszk grow3)); clear own3 grow3 lies3 lt3 t1)
              go_roundg (12 - (k + 1))
              case measure => omega
              case rel => exact ⟨k + 1, g1, c1, by omega, rfl, rfl, by go_num, OB3.out, HB3.out⟩
          · have hkk : k = 12 := by omega
            subst hkk
            have hcv := ownsBytes_back (P := Try.prog) OBk.out 36 9 5 Try.underlying36 Try.underlying5 Try.underlying9
            obtain ⟨y, hy⟩ : ∃ y, (⟨(bl 12 (Gfm.byt s)).toArray⟩ : ByteArray) = y := ⟨_, rfl⟩
            rw [hy] at hcv
            have HSY : Hid (sqF n0 f i = y) := by show _ = _; unfold sqF; rw [HSI.out, ← hy]; rfl
            have OW2 : Hid (wr.ownsRow w.heap.size 9 1 (.slice (some ⟨go, 0, none⟩) i co) i (textVals i (sqF n0 f))) := ownsRow_below OW.out HBk.out
            have HB2 : Hid (Below w.heap.size w wr) := HB.out.trans (HBk.out.mono HB.out.size)
            have hsz2 := HB2.out.size
            have ONE3 : Hid (RowS (wr.alloc (.cells #[.string y] 9)) (some ⟨wr.heap.size, 0, none⟩) 1 (fun _ => y)) := RowS.one _ _ rfl _ _
            have t1 : True := trivial
            clear hy
            go_wp2_with (at_builtin; have _t := t1; refine wpList_append_texts _ rfl _ _ rfl w.heap.size go i co (sqF n0 f) rfl (OW2.out.alloc _) (some ⟨wr.heap.size, 0, none⟩) 1 1 (fun _ => y) rfl ONE3.out (by omega) (by simp; omega) ?_; intro g3 c3 w4 own4 grow4 lies4; rw [textVals_joinOne i (sqF n0 f) y HSY.out] at own4; (have OWN4 : Hid (w4.ownsRow w.heap.size 9 1 (.slice (some ⟨g3, 0, none⟩) (i + 1) c3) (i + 1) (textVals (i + 1) (sqF n0 f))) := own4); (have B4 : Hid (Below w.heap.size w w4) := below_joined (HB2.out.alloc hsz2 _) (by simp; omega) (OW2.out.alloc _) grow4); clear own4 grow4 lies4 t1)
            go_roundg (n - (i + 1))
            case measure => omega
            case rel => exact ⟨i + 1, g3, c3, by omega, rfl, rfl, by go_num, OWN4.out, B4.out⟩
    · have hii : i = n := by omega
      subst hii
      go_wp2
      go_ret
      exact ⟨⟨go, co, rfl, OW.out⟩, HB.out⟩
end Go.Proofs.Ytjephdeolifbpaa
