/- For every two numbers the law LruBusy returns true: where all keys are pinned nothing goes, and nothing is put; one that is let go goes. No condition. -/
import Derived.Test.YtmmhfkohfijlaaaLrMine
import Derived.Deep.LoopGhost
import Derived.ProofKit
import Derived.OpenShut
import Derived.Below
import Derived.ChangeOld
namespace Go.Proofs.Ytmmhfkohfijlaaa.lruBusy
open Go.ChangeShapes Go.WideShapes Go.ChangeAt Go.RowKit Lr

/-- the keys n - 1 .. 0, each pinned once, but for i -/
def bz (n i : Nat) : L := (List.range n).map fun j => (((n - 1 - j : Nat) : Int), if n - 1 - j = i then 0 else 1)
theorem bz_length (n i : Nat) : (bz n i).length = n := by simp [bz]
theorem bz_at {n i j : Nat} (h : j < (bz n i).length) : (bz n i)[j] = (((n - 1 - j : Nat) : Int), if n - 1 - j = i then 0 else 1) := by simp [bz]
theorem bz_succ (m : Nat) : bz (m + 1) (m + 1) = ((m : Int), 1) :: bz m m := by
  unfold bz
  rw [List.range_succ_eq_map, List.map_cons, List.map_map]
  congr 1
  · simp
  · apply List.map_congr_left
    intro j hj
    rw [List.mem_range] at hj
    simp only [Function.comp]
    have e : m + 1 - 1 - Nat.succ j = m - 1 - j := by omega
    rw [e, if_neg (by omega), if_neg (by omega)]
theorem bz_key {n i : Nat} {k : Int} (h : k ∈ keys (bz n i)) : 0 ≤ k ∧ k < n := by
  obtain ⟨x, hx, rfl⟩ := List.mem_map.1 h
  obtain ⟨j, hj, rfl⟩ := List.mem_map.1 hx
  rw [List.mem_range] at hj
  dsimp only
  omega
theorem bz_out {n i : Nat} {k : Int} (h : (n : Int) ≤ k) : ¬ idx (bz n i) k < (bz n i).length := fun hh => by
  have := bz_key (has_iff.1 hh); omega
theorem bz_idx {n i q : Nat} (hn : (keys (bz n q)).Nodup) (h : i < n) : idx (bz n q) (i : Int) = n - 1 - i := by
  have hl : n - 1 - i < (bz n q).length := by rw [bz_length]; omega
  have := idx_at hn hl
  rw [getD_at' hl, bz_at hl] at this
  rwa [show n - 1 - (n - 1 - i) = i by omega] at this
/-- all are pinned -/
theorem bz_held (n : Nat) : held (bz n n) = n := by
  rw [held_all, bz_length]
  intro x hx
  obtain ⟨j, hj, rfl⟩ := List.mem_map.1 hx
  rw [List.mem_range] at hj
  dsimp only
  rw [if_neg (by omega)]; decide
theorem bz_free {n i : Nat} (h : i < n) : held (bz n i) = i := by
  have hl : n - 1 - i < (bz n i).length := by rw [bz_length]; omega
  rw [held_at hl, bz_length]
  · omega
  · rw [bz_at hl]; exact if_pos (by omega)
  · intro j h1 h2
    rw [bz_at h2]
    rw [bz_length] at h2
    dsimp only
    rw [if_neg (by omega)]; decide
theorem put_new {room n i : Nat} {k : Int} (hk : (n : Int) ≤ k) (hr : n < room) : put room (bz n i) k = (k, 0) :: bz n i ∧ putE room (bz n i) k = 0 := by
  unfold put putE
  rw [if_neg (bz_out hk), if_neg (bz_out hk), bz_length, if_pos hr, if_pos hr]
  exact ⟨rfl, rfl⟩
theorem head_idx (k : Int) (n : Nat) (l : L) : idx ((k, n) :: l) k = 0 := by simp [idx, List.findIdx_cons]
theorem head_pins (k : Int) (n : Nat) (l : L) : pins ((k, n) :: l) k = n := by simp [pins, head_idx]
theorem head_pinE (k : Int) (n : Nat) (l : L) : pinE ((k, n) :: l) k = 0 := by simp [pinE, head_idx]
theorem head_pin (k : Int) (n : Nat) (l : L) : pin ((k, n) :: l) k = (k, n + 1) :: l := by simp [pin, pinTo, head_idx, head_pins]
theorem put_busy (n : Nat) {k : Int} (hk : (n : Int) ≤ k) : put n (bz n n) k = bz n n ∧ putE n (bz n n) k = 130 ∧ putW n (bz n n) k = false ∧ putG n (bz n n) k = 0 := by
  unfold put putE putW putG
  rw [if_neg (bz_out hk), if_neg (bz_out hk), if_neg (bz_out hk), if_neg (bz_out hk), bz_length, bz_held, if_neg (Nat.lt_irrefl n), if_neg (Nat.lt_irrefl n), if_neg (Nat.lt_irrefl n), if_neg (Nat.lt_irrefl n), if_neg (Nat.lt_irrefl n), if_neg (Nat.lt_irrefl n), if_neg (Nat.lt_irrefl n)]
  exact ⟨rfl, rfl, by simp, rfl⟩
theorem unpin_one {n i : Nat} (hn : (keys (bz n n)).Nodup) (h : i < n) : pins (bz n n) (i : Int) = 1 ∧ unpinE (bz n n) (i : Int) = 0 ∧ unpin (bz n n) (i : Int) = bz n i := by
  have hi := bz_idx hn h
  have hl : n - 1 - i < (bz n n).length := by rw [bz_length]; omega
  have hp : pins (bz n n) (i : Int) = 1 := by
    unfold pins
    rw [hi, getD_at' hl, bz_at hl]
    exact if_neg (by omega)
  refine ⟨hp, ?_, ?_⟩
  · unfold unpinE
    rw [hi, if_pos hl, hp]; rfl
  · unfold unpin
    rw [hi, if_pos hl, hp, if_neg (by decide), pinTo, getD_at' hl, bz_at hl]
    apply List.ext_getElem
    · rw [List.length_set, bz_length, bz_length]
    · intro j h1 h2
      rw [List.getElem_set, bz_at h2]
      by_cases e : n - 1 - i = j
      · rw [if_pos e]
        have e2 : n - 1 - j = i := by rw [bz_length] at h2; omega
        rw [if_pos e2, ← e]
      · rw [if_neg e, bz_at (by rw [bz_length] at h2 ⊢; exact h2)]
        rw [bz_length] at h2
        rw [if_neg (by omega), if_neg (by omega)]
theorem put_goes {n i : Nat} (h : i < n) {k : Int} (hk : (n : Int) ≤ k) : put n (bz n i) k = (k, 0) :: (bz n i).eraseIdx (n - 1 - i) ∧ putE n (bz n i) k = 0 ∧ putW n (bz n i) k = true ∧ putG n (bz n i) k = (i : Int) := by
  have ho : old (bz n i) = n - 1 - i := by unfold old; rw [bz_length, bz_free h]
  have hl : n - 1 - i < (bz n i).length := by rw [bz_length]; omega
  unfold put putE putW putG
  rw [if_neg (bz_out hk), if_neg (bz_out hk), if_neg (bz_out hk), if_neg (bz_out hk), ho, bz_length, bz_free h, if_neg (Nat.lt_irrefl n), if_neg (Nat.lt_irrefl n), if_neg (Nat.lt_irrefl n), if_neg (Nat.lt_irrefl n), if_pos h, if_pos h, if_pos h, getD_at' hl, bz_at hl]
  refine ⟨rfl, rfl, by simp [h], ?_⟩
  show ((n - 1 - (n - 1 - i) : Nat) : Int) = _
  omega
theorem erased_key {l : L} (hn : (keys l).Nodup) {i : Nat} (h : i < l.length) : l[i].1 ∉ keys (l.eraseIdx i) := fun hm => by
  obtain ⟨y, hy, he⟩ := List.mem_map.1 hm
  obtain ⟨j, hj, hji, rfl⟩ := List.mem_eraseIdx_iff_getElem.1 hy
  exact hji (nodup_at hn (by rw [keys_length]; exact hj) (by rw [keys_length]; exact h) (by simpa [keys] using he))
theorem head_has (k : Int) (n : Nat) (l : L) : Lr.has ((k, n) :: l) k = true := by simp [Lr.has, head_idx]
theorem head_get (k : Int) (n : Nat) (l : L) : Lr.get ((k, n) :: l) k = (k, n) :: l := by simp [Lr.get, front, head_idx]
theorem gone_has {n i : Nat} (hn : (keys (bz n i)).Nodup) (h : i < n) {k : Int} (hk : (n : Int) ≤ k) : Lr.has ((k, 0) :: (bz n i).eraseIdx (n - 1 - i)) (i : Int) = false := by
  unfold Lr.has
  rw [decide_eq_false_iff_not, has_iff]
  intro hm
  rcases List.mem_cons.1 hm with hm | hm
  · have : (i : Int) = k := hm
    omega
  · have hl : n - 1 - i < (bz n i).length := by rw [bz_length]; omega
    have := erased_key hn hl
    rw [bz_at hl, show n - 1 - (n - 1 - i) = i by omega] at this
    exact this hm

set_option maxRecDepth 100000 in
set_option maxHeartbeats 8000000 in
theorem core (room k r n i : Nat) (hroom : (room : Int).tmod 64 = (r : Int)) (hrn : (1 : Int) + (r : Int) = (n : Int)) (hn1 : 1 ≤ n) (hn64 : n ≤ 64) (hi : (k : Int).tmod (n : Int) = (i : Int)) (hin : i < n) (hr8 : room < 256) (hk8 : k < 256) (w : World) :
    Calls Try.prog 5 #[.int .u8 (room : Nat), .int .u8 (k : Nat)] w fun e w' => e = .returned (.bool true) ∧ Below w.heap.size w w' := by
  have HN1 : Hid (1 ≤ n) := hn1
  have HIN : Hid (i < n) := hin
  have hnz : ((n : Int) == 0) = false := by rw [beq_eq_false_iff_ne]; omega
  clear hn1 hin
  go_enter Try.func5, Try.ntmps5
  go_wp2_with fail
  refine (New_mine n w.heap.size HN1.out hn64 w (Nat.le_refl _)).mono ?_
  rintro e w1 ⟨p, rfl, m1, b1⟩
  have M1 : Hid (Lr.Mine w1 w.heap.size p n []) := m1
  have B1 : Hid (Below w.heap.size w w1) := b1
  clear m1 b1
  go_wp2_with fail
  refine (shown14_any w1).mono ?_
  rintro e w2 ⟨rfl, b2⟩
  have M2 : Hid (Lr.Mine w2 w.heap.size p n (bz 0 0)) := M1.out.below b2
  have B2 : Hid (Below w.heap.size w w2) := B1.out.trans (b2.mono B1.out.size)
  clear b2 M1 B1
  go_wp2_with fail
  go_loopg [7, 8, 9, 10] n (fun g a b c d wr => ∃ j : Nat, j ≤ n ∧ g = n - j ∧ a = .int .i64 (j : Int) ∧ Lr.Mine wr w.heap.size p n (bz j j) ∧ Below w.heap.size w wr)
  case atStart => exact ⟨0, Nat.zero_le _, rfl, rfl, M2.out, B2.out⟩
  case round =>
    obtain ⟨j, hj, rfl, rfl, m, b⟩ := hrel
    have M : Hid (Lr.Mine wr w.heap.size p n (bz j j)) := m
    have B : Hid (Below w.heap.size w wr) := b
    clear m b M2 B2
    by_cases hlt : j < n
    · have hp1 := put_new (i := j) (room := n) (k := (j : Int)) (Int.le_refl _) hlt
      have hsucc := bz_succ j
      go_wp2_with fail
      refine (Put_mine M.out (k := (j : Int)) (ok_nat j (by omega))).mono ?_
      rw [hp1.1, hp1.2]
      rintro e v1 ⟨rfl, m1, b1⟩
      have M1 : Hid (Lr.Mine v1 w.heap.size p n (((j : Int), 0) :: bz j j)) := m1
      have B1 : Hid (Below w.heap.size w v1) := B.out.trans b1
      clear m1 b1 hp1
      go_wp2_with fail
      refine (Pin_mine M1.out (k := (j : Int)) (ok_nat j (by omega)) (by rw [head_pins]; decide)).mono ?_
      rw [head_pinE, head_pin]
      rintro e v2 ⟨rfl, m2, b2⟩
      have M2 : Hid (Lr.Mine v2 w.heap.size p n (bz (j + 1) (j + 1))) := by rw [hsucc]; exact m2
      have B2 : Hid (Below w.heap.size w v2) := B1.out.trans b2
      clear m2 b2 hsucc
      go_wp2
      go_roundg (n - (j + 1))
      case measure => omega
      case rel => exact ⟨j + 1, by omega, rfl, by go_num, M2.out, B2.out⟩
    · have hjn : j = n := by omega
      have MN : Hid (Lr.Mine wr w.heap.size p n (bz n n)) := by rw [hjn] at M; exact M
      have hx : ¬ (j : Int) < (n : Int) := by omega
      have HN64 : Hid (n ≤ 64) := hn64
      have HP1 := put_busy n (k := 1000) (by omega)
      have HND : Hid ((keys (bz n n)).Nodup) := MN.out.ok.nd
      clear hjn M hj hlt
      go_wp2_with fail
      refine (Put_mine MN.out (k := 1000) (ok_nat 1000 (by decide))).mono ?_
      rw [HP1.1, HP1.2.1, HP1.2.2.1, HP1.2.2.2]
      rintro e v1 ⟨rfl, m1, b1⟩
      have M1 : Hid (Lr.Mine v1 w.heap.size p n (bz n n)) := m1
      have B1 : Hid (Below w.heap.size w v1) := B.out.trans b1
      clear m1 b1 HP1 MN hx
      go_wp2_with fail
      refine (Keys_mine M1.out).mono ?_
      rw [bz_length]
      rintro e v2 ⟨⟨a, cap, rfl, _, _⟩, m2, b2⟩
      have M2 : Hid (Lr.Mine v2 w.heap.size p n (bz n n)) := m2
      have B2 : Hid (Below w.heap.size w v2) := B1.out.trans (b2.mono B1.out.size)
      clear m2 b2
      have HU := unpin_one HND.out HIN.out
      go_wp2_with fail
      refine (Unpin_mine M2.out (k := (i : Int)) (ok_nat i (by have h1 := HIN.out; have h2 := HN64.out; omega)) (by rw [HU.1]; decide)).mono ?_
      rw [HU.2.1, HU.2.2]
      rintro e v3 ⟨rfl, m3, b3⟩
      have M3 : Hid (Lr.Mine v3 w.heap.size p n (bz n i)) := m3
      have B3 : Hid (Below w.heap.size w v3) := B2.out.trans b3
      have HND3 : Hid ((keys (bz n i)).Nodup) := m3.ok.nd
      clear m3 b3 HU
      have HP2 := put_goes HIN.out (k := 1000) (by have h2 := HN64.out; omega)
      go_wp2_with fail
      refine (Put_mine M3.out (k := 1000) (ok_nat 1000 (by decide))).mono ?_
      rw [HP2.1, HP2.2.1, HP2.2.2.1, HP2.2.2.2]
      rintro e v4 ⟨rfl, m4, b4⟩
      have M4 : Hid (Lr.Mine v4 w.heap.size p n ((1000, 0) :: (bz n i).eraseIdx (n - 1 - i))) := m4
      have B4 : Hid (Below w.heap.size w v4) := B3.out.trans b4
      clear m4 b4 HP2
      go_wp2_with fail
      refine (Get_mine M4.out (k := 1000) (ok_nat 1000 (by decide))).mono ?_
      rw [head_has, head_get]
      rintro e v5 ⟨rfl, m5, b5⟩
      have M5 : Hid (Lr.Mine v5 w.heap.size p n ((1000, 0) :: (bz n i).eraseIdx (n - 1 - i))) := m5
      have B5 : Hid (Below w.heap.size w v5) := B4.out.trans b5
      clear m5 b5
      have HG := gone_has HND3.out HIN.out (k := 1000) (by have h2 := HN64.out; omega)
      go_wp2_with fail
      refine (Get_mine M5.out (k := (i : Int)) (ok_nat i (by have h1 := HIN.out; have h2 := HN64.out; omega))).mono ?_
      rw [HG]
      rintro e v6 ⟨rfl, _, b6⟩
      have B6 : Hid (Below w.heap.size w v6) := B5.out.trans b6
      clear b6 HG
      go_wp2
      go_ret
      exact ⟨rfl, B6.out⟩

theorem walk (room : Int) (wr : (Lit.int .u8 room).wf = true) (k : Int) (wk : (Lit.int .u8 k).wf = true) (w : World) :
    Calls Try.prog 5 #[.int .u8 room, .int .u8 k] w fun e w' => e = .returned (.bool true) ∧ Below w.heap.size w w' := by
  have h1 := bounds_u8 wr
  have h2 := bounds_u8 wk
  obtain ⟨R, rfl⟩ : ∃ R : Nat, room = (R : Int) := ⟨room.toNat, by omega⟩
  obtain ⟨K, rfl⟩ : ∃ K : Nat, k = (K : Int) := ⟨k.toNat, by omega⟩
  have hn : 0 < 1 + R % 64 := by omega
  refine core R K (R % 64) (1 + R % 64) (K % (1 + R % 64)) ?_ (by omega) (by omega) (by omega) ?_ (Nat.mod_lt _ hn) (by omega) (by omega) w
  · rw [Int.tmod_eq_emod_of_nonneg (by omega)]; omega
  · rw [Int.tmod_eq_emod_of_nonneg (by omega)]; exact (Int.natCast_emod K (1 + R % 64)).symm

theorem own : ownKnob Try.prog.godebug = none := by kernel_rfl
set_option linter.unusedVariables false in
set_option maxRecDepth 100000 in
theorem lifted (os : Os) (started : os.Started) (H : Type) (enc : TypeId × Value → H) :
    ReturnsInHanded {} Try.checked os 5 .any (Rows.lruBusySpec.pre6 enc Try.prog Try.f5 Rows.lruBusyRow.domain false) (Rows.lruBusySpec.post enc Try.prog Try.f5 false true false false) := by
  refine returnsInHanded_of_change (C := Try.checked) own started (by kernel_rfl) Try.func5
    (ChangeSpec.witness6 (enc := enc) (C := Try.checked) false ⟨#[], #[.int .u8 0, .int .u8 0], []⟩ 8 (by kernel_rfl) (by kernel_rfl) (by kernel_rfl) (by kernel_rfl)) ?_
  intro W base args ds gs before hval0 hW hcnd _
  have hval : ∀ (j : Nat) t v, Try.f5.params[j]? = some t → args[j]? = some v → Value.okWide Try.prog W .any base t v := hval0
  have hW' := hW
  obtain ⟨p, q, hA0, hV, rfl, hfz, hnd⟩ := hW
  have hA : DataW.TrodAll enc Try.prog W 0 (fun _ => true) true Try.f5.params.toList args.toList ds p := hA0
  rw [Try.params5] at hA hval
  obtain ⟨v0, vs0, d0, ds0, p0, q0, hargs, rfl, rfl, h0, r0⟩ := trodAll_cons hA
  obtain ⟨v1, vs1, d1, ds1, p1, q1, rfl, rfl, rfl, h1, r1⟩ := trodAll_cons r0
  obtain ⟨rfl, rfl, rfl⟩ := trodAll_nil r1
  obtain rfl : args = #[v0, v1] := by cases args; simp_all
  obtain ⟨rfl, rfl⟩ := trodVars_none hV
  obtain ⟨a0, rfl, rfl, rfl, w0⟩ := open_int Try.underlying5 (hval 0 5 v0 rfl rfl) h0
  obtain ⟨a1, rfl, rfl, rfl, w1⟩ := open_int Try.underlying5 (hval 1 5 v1 rfl rfl) h1
  clear hA0 hval0
  simp only [List.append_nil] at hW'
  refine (walk a0 w0 a1 w1 W).mono fun e W' ⟨he, hg⟩ => ?_
  subst he
  exact ⟨_, rfl, _, _, _, [], [], [], hW', trodAll_mk1 (shut_bool Try.underlying4 _), (trodAll_cons_mk (shut_int Try.underlying5 w0) (trodAll_cons_mk (shut_int Try.underlying5 w1) trodAll_mk0)), rfl, hg.frame _, fun h => by cases h⟩
/-- For every input the law returns true, and each argument reads as it did. -/
theorem proved : Rows.LruBusySaid :=
  OpenClaim.holds_of_wide 5 Try.f5 rfl rfl rfl rfl rfl rfl rfl ⟨rfl, rfl, rfl, rfl, rfl⟩ rfl rfl rfl rfl rfl (by kernel_rfl) Try.func5 (by kernel_rfl)
    (of_decide_eq_true (by kernel_rfl)) (by unfold Func.isWrapper; first | (rw [if_pos (by decide +kernel)]; kernel_rfl) | (rw [if_neg (by decide +kernel)]; exact ⟨rfl, rfl⟩))
    (fun os started H enc _ => lifted os started H enc)
end Go.Proofs.Ytmmhfkohfijlaaa.lruBusy
