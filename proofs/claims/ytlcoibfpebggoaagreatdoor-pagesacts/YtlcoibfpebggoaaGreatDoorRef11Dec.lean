/- The walk of the document's own Decode of a page. -/
import Derived.Test.YtlcoibfpebggoaaGreatDoorRef11Enc
import Derived.Test.YtlcoibfpebggoaaGreatDoorKitRet
import Derived.Deep.LoopGhost
namespace Go.Proofs.YtlcoibfpebggoaaGreatDoor
open Go.RowKit

theorem dec8_any (u : ByteArray) (h : u.size = 8) (b : Option Addr) (cb : Nat) (w : World) (hb : RowI .i64 w b 1 (fun j => [8].getD j 0)) :
    Calls Tryz.prog 38 #[.string u, .slice b 1 cb] w fun e w' => ∃ a cap, e = .returned (.tuple #[.slice a 1 cap, .int .i64 0]) ∧ RowI .u64 w' a 1 (fun _ => (((Pk.dec u.data.toList [8]).getD 0 0 : Nat) : Int)) ∧ Below w.heap.size w w' := by
  have hl : u.data.toList.length = Pk.offs [8] [8].length := by rw [Pg.list_size, h]; rfl
  have hx := refDecode_any u [8] (by rw [h]; unfold maxLen; decide) (by show 1 ≤ maxLen; decide) b cb w hb
  have e1 := Pk.decE_yes Pg.w8_ok hl
  have e2 : (Pk.dec u.data.toList [8]).length = 1 := Pk.dec_length Pg.w8_ok hl
  refine hx.mono ?_
  rintro e w' ⟨a, cap, he, hr, hbb⟩
  rw [e1, e2] at he
  rw [e2] at hr
  refine ⟨a, cap, he, fun j hj => ?_, hbb⟩
  have : j = 0 := by omega
  subst this
  exact hr 0 hj

set_option maxRecDepth 100000 in
set_option maxHeartbeats 1000000 in
theorem rDecode11_short (b : ByteArray) (h : b.size ≠ 64) (w : World) :
    Calls Tryz.prog 11 #[.string b] w fun e w' => e = .returned (.tuple #[pgV Pg.none, .int .i64 31]) ∧ Below w.heap.size w w' := by
  have hn : ((b.size : Int) != 64) = true := by rw [bne_iff_ne]; omega
  go_enter Tryz.func11, Tryz.ntmps11
  go_wp2
  refine bodyPost_ret (ret_cell_tmp rfl _ _ ⟨w.heap.size, 0, none⟩ (pgV Pg.none) rfl (by go_simp; rfl)) rfl ?_
  exact ⟨rfl, (Below.refl _ w).alloc (Nat.le_refl _) _⟩

set_option maxRecDepth 100000 in
set_option maxHeartbeats 1000000 in
theorem rDecode11_sum (b : ByteArray) (h : b.size = 64) (ho : Crc.opens b.data.toList = false) (w : World) :
    Calls Tryz.prog 11 #[.string b] w fun e w' => e = .returned (.tuple #[pgV Pg.none, .int .i64 80]) ∧ Below w.heap.size w w' := by
  have hn : ((b.size : Int) != 64) = false := by rw [bne_eq_false_iff_eq]; omega
  have HO := fun W => refOpen_no b (by omega) ho W
  clear h ho
  go_enter Tryz.func11, Tryz.ntmps11
  go_wp2_with fail
  refine (HO _).mono ?_
  rintro e w1 ⟨rfl, hb1⟩
  obtain ⟨c0, c1⟩ := pg_cells hb1
  have f0 := pg_free hb1 0
  have f1 := pg_free hb1 1
  have HB : Hid (Below w.heap.size w w1) := ((Below.refl _ w).alloc (Nat.le_refl _) _).trans (hb1.mono (by simp))
  clear hb1 HO
  go_wp2
  refine bodyPost_ret (ret_cell_tmp rfl _ _ ⟨w.heap.size, 0, none⟩ (pgV Pg.none) rfl (by go_simp; rfl)) rfl ?_
  exact ⟨rfl, pg_stored HB.out (Nat.le_refl _) HB.out.size _ _⟩

set_option maxRecDepth 100000 in
set_option maxHeartbeats 1000000 in
theorem rDecode11_magic (b t : ByteArray) (h : b.size = 64) (ho : Crc.opens b.data.toList = true) (ht : Crc.headB b = t) (hf : t.extract 0 4 ≠ Pg.magicB) (w : World) :
    Calls Tryz.prog 11 #[.string b] w fun e w' => e = .returned (.tuple #[pgV Pg.none, .int .i64 81]) ∧ Below w.heap.size w w' := by
  have hn : ((b.size : Int) != 64) = false := by rw [bne_eq_false_iff_eq]; omega
  have HO := fun W => refOpen_yes b (by omega) ho W
  have ts : t.size = 60 := by rw [← ht]; exact Pg.head_size h
  have tsi : (t.size : Int) = 60 := by omega
  rw [ht] at HO
  have hne : ((t.extract 0 4).toList == [82, 86, 84, 66]) = false := by have e := Pg.tx_eq (t.extract 0 4) Pg.magicB; rw [decide_eq_false hf, Pg.magic_list] at e; exact e
  clear h ho ht hf ts
  go_enter Tryz.func11, Tryz.ntmps11
  go_wp2_with fail
  refine (HO _).mono ?_
  rintro e w1 ⟨rfl, hb1⟩
  obtain ⟨c0, c1⟩ := pg_cells hb1
  have f0 := pg_free hb1 0
  have f1 := pg_free hb1 1
  have HB : Hid (Below w.heap.size w w1) := ((Below.refl _ w).alloc (Nat.le_refl _) _).trans (hb1.mono (by simp))
  clear hb1 HO
  go_wp2
  refine bodyPost_ret (ret_cell_tmp rfl _ _ ⟨w.heap.size, 0, none⟩ (pgV Pg.none) rfl (by go_simp; rfl)) rfl ?_
  exact ⟨rfl, pg_stored HB.out (Nat.le_refl _) HB.out.size _ _⟩

set_option maxRecDepth 100000 in
set_option maxHeartbeats 1000000 in
theorem rDecode11_arg (b t : ByteArray) (h : b.size = 64) (ho : Crc.opens b.data.toList = true) (ht : Crc.headB b = t) (hf : t.extract 0 4 = Pg.magicB) (hr : Pg.restB t = false) (w : World) :
    Calls Tryz.prog 11 #[.string b] w fun e w' => e = .returned (.tuple #[pgV Pg.none, .int .i64 1]) ∧ Below w.heap.size w w' := by
  have hn : ((b.size : Int) != 64) = false := by rw [bne_eq_false_iff_eq]; omega
  have HO := fun W => refOpen_yes b (by omega) ho W
  have ts : t.size = 60 := by rw [← ht]; exact Pg.head_size h
  have tsi : (t.size : Int) = 60 := by omega
  rw [ht] at HO
  have hne : ((t.extract 0 4).toList == [82, 86, 84, 66]) = true := by have e := Pg.tx_eq (t.extract 0 4) Pg.magicB; rw [decide_eq_true hf, Pg.magic_list] at e; exact e
  have HR : Hid (Pg.restB t = false) := hr
  have TS : Hid (t.size = 60) := ts
  clear h ho ht hf ts hr
  go_enter Tryz.func11, Tryz.ntmps11
  go_wp2_with fail
  refine (HO _).mono ?_
  rintro e w1 ⟨rfl, hb1⟩
  obtain ⟨c0, c1⟩ := pg_cells hb1
  have f0 := pg_free hb1 0
  have f1 := pg_free hb1 1
  have HB : Hid (Below w.heap.size w w1) := ((Below.refl _ w).alloc (Nat.le_refl _) _).trans (hb1.mono (by simp))
  clear hb1 HO
  go_wp2
  go_loopg [6] 40 (fun g i wr => ∃ k : Nat, k ≤ 40 ∧ g = 40 - k ∧ i = .int .i64 ((20 + k : Nat) : Int) ∧ wr = w1 ∧ ∀ j, j < k → Pg.byt11 t (20 + j) = 0)
  case atStart => exact ⟨0, Nat.zero_le _, rfl, rfl, rfl, fun j hj => absurd hj (Nat.not_lt_zero _)⟩
  case round =>
    obtain ⟨k, hk, rfl, rfl, rfl, hz⟩ := hrel
    have HZ : Hid (∀ j, j < k → Pg.byt11 t (20 + j) = 0) := hz
    clear hz
    by_cases hlt : k < 40
    · have hi1 : ((20 + k : Nat) : Int) < 60 := by omega
      have hkt : 20 + k < t.size := by rw [TS.out]; omega
      have hB := Pg.byt11_at t (20 + k) hkt
      by_cases h0 : Pg.byt11 t (20 + k) = 0
      · have hv : (((t[20 + k]'hkt).toNat : Int) != 0) = false := by rw [hB, h0]; rfl
        have HZ2 : Hid (∀ j, j < k + 1 → Pg.byt11 t (20 + j) = 0) := fun j hj => by
          by_cases e : j = k
          · rw [e]; exact h0
          · exact HZ.out j (by omega)
        clear hB h0
        go_wp2
        go_roundg (40 - (k + 1))
        case measure => omega
        case rel => exact ⟨k + 1, by omega, rfl, by go_num, rfl, HZ2.out⟩
      · have hv : (((t[20 + k]'hkt).toNat : Int) != 0) = true := by
          rw [bne_iff_ne, hB]
          intro e
          apply h0
          have e2 : (Pg.byt11 t (20 + k)).toNat = 0 := by omega
          exact UInt8.toNat_inj.1 e2
        clear hB h0
        go_wp2
        refine bodyPost_ret (ret_cell_tmp rfl _ _ ⟨w.heap.size, 0, none⟩ (pgV Pg.none) rfl (by go_simp; rfl)) rfl ?_
        exact ⟨rfl, pg_stored HB.out (Nat.le_refl _) HB.out.size _ _⟩
    · have e := (Pg.rest_iff TS.out).2 (fun j hj => HZ.out j (by omega))
      rw [HR.out] at e
      cases e
set_option maxRecDepth 100000 in
set_option maxHeartbeats 1000000 in
theorem rDecode11_good (b t u : ByteArray) (v : Nat) (hu : t.extract 4 12 = u) (hv : (Pk.dec u.data.toList [8]).getD 0 0 = v) (h : b.size = 64) (ho : Crc.opens b.data.toList = true) (ht : Crc.headB b = t) (hf : t.extract 0 4 = Pg.magicB) (hr : Pg.restB t = true) (w : World) :
    Calls Tryz.prog 11 #[.string b] w fun e w' => e = .returned (.tuple #[pgV ⟨v, t.extract 12 20⟩, .int .i64 0]) ∧ Below w.heap.size w w' := by
  have hn : ((b.size : Int) != 64) = false := by rw [bne_eq_false_iff_eq]; omega
  have HO := fun W => refOpen_yes b (by omega) ho W
  have ts : t.size = 60 := by rw [← ht]; exact Pg.head_size h
  have tsi : (t.size : Int) = 60 := by omega
  rw [ht] at HO
  have hne : ((t.extract 0 4).toList == [82, 86, 84, 66]) = true := by have e := Pg.tx_eq (t.extract 0 4) Pg.magicB; rw [decide_eq_true hf, Pg.magic_list] at e; exact e
  have HR : Hid (Pg.restB t = true) := hr
  have TS : Hid (t.size = 60) := ts
  have hu8 : u.size = 8 := by rw [← hu, ByteArray.size_extract, ts]; rfl
  have hD := dec8_any u hu8
  have hvl : v < 18446744073709551616 := by rw [← hv]; exact Pg.dec8_lt _
  rw [hv] at hD
  have HD : Hid _ := hD
  clear h ho ht hf ts hr hD hv hu8
  go_enter Tryz.func11, Tryz.ntmps11
  go_wp2_with fail
  refine (HO _).mono ?_
  rintro e w1 ⟨rfl, hb1⟩
  obtain ⟨c0, c1⟩ := pg_cells hb1
  have f0 := pg_free hb1 0
  have f1 := pg_free hb1 1
  have HB : Hid (Below w.heap.size w w1) := ((Below.refl _ w).alloc (Nat.le_refl _) _).trans (hb1.mono (by simp))
  clear hb1 HO
  go_wp2
  go_loopg [6] 40 (fun g i wr => ∃ k : Nat, k ≤ 40 ∧ g = 40 - k ∧ i = .int .i64 ((20 + k : Nat) : Int) ∧ wr = w1 ∧ ∀ j, j < k → Pg.byt11 t (20 + j) = 0)
  case atStart => exact ⟨0, Nat.zero_le _, rfl, rfl, rfl, fun j hj => absurd hj (Nat.not_lt_zero _)⟩
  case round =>
    obtain ⟨k, hk, rfl, rfl, rfl, hz⟩ := hrel
    have HZ : Hid (∀ j, j < k → Pg.byt11 t (20 + j) = 0) := hz
    clear hz
    by_cases hlt : k < 40
    · have hi1 : ((20 + k : Nat) : Int) < 60 := by omega
      have hkt : 20 + k < t.size := by rw [TS.out]; omega
      have hB := Pg.byt11_at t (20 + k) hkt
      by_cases h0 : Pg.byt11 t (20 + k) = 0
      · have hv : (((t[20 + k]'hkt).toNat : Int) != 0) = false := by rw [hB, h0]; rfl
        have HZ2 : Hid (∀ j, j < k + 1 → Pg.byt11 t (20 + j) = 0) := fun j hj => by
          by_cases e : j = k
          · rw [e]; exact h0
          · exact HZ.out j (by omega)
        clear hB h0
        go_wp2
        go_roundg (40 - (k + 1))
        case measure => omega
        case rel => exact ⟨k + 1, by omega, rfl, by go_num, rfl, HZ2.out⟩
      · exact absurd ((Pg.rest_iff TS.out).1 HR.out k hlt) h0
    · have hkk : k = 40 := by omega
      subst hkk
      have hlt40 : ¬ ((20 + (40 : Nat) : Nat) : Int) < 60 := by omega
      clear hlt
      go_wp2_with fail
      refine (HD.out _ _ _ (row1I _ 8 _)).mono ?_
      rintro e w2 ⟨a, cap, rfl, hR, hb2⟩
      obtain ⟨b1, o1, rfl, hc⟩ := hR 0 (by decide)
      have hbb : Below wr.heap.size wr w2 := ((Below.refl _ wr).alloc (Nat.le_refl _) _).trans (hb2.mono (by simp))
      have hlw : w.heap.size < wr.heap.size := World.block_lt_of_cell? wr _ c0
      have d0 := (hbb.cell (p := ⟨w.heap.size, 0, none⟩) hlw).trans c0
      have d1 := (hbb.cell (p := ⟨w.heap.size, 1, none⟩) hlw).trans c1
      have g0 := (hbb.frozen (p := ⟨w.heap.size, 0, none⟩) hlw).trans f0
      have g1 := (hbb.frozen (p := ⟨w.heap.size, 1, none⟩) hlw).trans f1
      have HB2 : Hid (Below w.heap.size w w2) := HB.out.trans (hbb.mono HB.out.size)
      rw [Nat.add_zero] at hc
      clear hR hb2 hbb hlw c0 c1 f0 f1
      go_wp2_with fail
      go_region
      go_wp2
      refine bodyPost_ret (ret_cell_tmp rfl _ _ ⟨w.heap.size, 0, none⟩ (pgV ⟨v, t.extract 12 20⟩) rfl (by go_simp; rfl)) rfl ?_
      exact ⟨rfl, (pg_stored HB2.out (Nat.le_refl _) HB2.out.size _ _).drew⟩

/-- the document's own Decode of any text -/
theorem rDecode11_any (b : ByteArray) (w : World) :
    Calls Tryz.prog 11 #[.string b] w fun e w' => e = .returned (.tuple #[pgV (Pg.decS b), .int .i64 (Pg.decE b : Nat)]) ∧ Below w.heap.size w w' := by
  by_cases h : b.size = 64
  · cases ho : Crc.opens b.data.toList with
    | false =>
      rw [Pg.decS_bad (Pg.decE_sum h ho) (by decide), Pg.decE_sum h ho]
      exact rDecode11_sum b h ho w
    | true =>
      by_cases hf : (Crc.headB b).extract 0 4 = Pg.magicB
      · cases hr : Pg.restB (Crc.headB b) with
        | false =>
          rw [Pg.decS_bad (Pg.decE_arg h ho hf hr) (by decide), Pg.decE_arg h ho hf hr]
          exact rDecode11_arg b _ h ho rfl hf hr w
        | true =>
          rw [Pg.decS_good (Pg.decE_good h ho hf hr), Pg.decE_good h ho hf hr]
          exact rDecode11_good b _ _ _ rfl rfl h ho rfl hf hr w
      · rw [Pg.decS_bad (Pg.decE_magic h ho hf) (by decide), Pg.decE_magic h ho hf]
        exact rDecode11_magic b _ h ho rfl hf w
  · rw [Pg.decS_bad (Pg.decE_short h) (by decide), Pg.decE_short h]
    exact rDecode11_short b h w
end Go.Proofs.YtlcoibfpebggoaaGreatDoor
