/- For all numbers and all lists of what a crash keeps the law SlotsCrash returns true: wherever a drive crashes between writing a superblock and flushing it, what is loaded is what was there, or what was written. No condition. -/
import Derived.Test.YtgkhnfchohcjeaaSlBase
import Derived.Test.YtgkhnfchohcjeaaKitSup
import Derived.ProofKit
import Derived.OpenShut
import Derived.ShutString
namespace Go.Proofs.Ytgkhnfchohcjeaa.slotsCrash
open Go.ChangeShapes Go.WideShapes Go.ChangeAt Go.RowKit
open Go.ChangeMaps (open_string shut_string)

/-- what a crash makes of a write behind a superblock that is safe -/
theorem crash_load {s t : Su} (hs : Sup.may s) (ht : Sup.may t) (bs : s.Bd) (bt : t.Bd) (hst : Dr.slot s ≠ Dr.slot t) (hev : s.ev < t.ev) (keep : List Nat) :
    ((((Dr.fresh 2).savedD s).put (Dr.slot t) (Sup.secT t).data.toList).crash keep).loadE = 0 ∧
      (((((Dr.fresh 2).savedD s).put (Dr.slot t) (Sup.secT t).data.toList).crash keep).loadS = s ∨ ((((Dr.fresh 2).savedD s).put (Dr.slot t) (Sup.secT t).data.toList).crash keep).loadS = t) := by
  have h1 := (Dr.Calm.fresh 2).saved s
  obtain ⟨D1, e1⟩ : ∃ D1, D1 = (Dr.fresh 2).savedD s := ⟨_, rfl⟩
  have l1 : D1.last (Dr.slot s) = (Sup.secT s).data.toList := by rw [e1]; exact (Dr.Calm.fresh 2).saved_same (by decide) s
  have l2 : D1.last (Dr.slot t) = List.replicate 64 0 := by
    rw [e1, (Dr.Calm.fresh 2).saved_other s (Dr.slot_lt t) (fun e => hst e.symm), (Dr.Calm.fresh 2).last, Dr.fresh_safe (Dr.slot_lt t)]
  rw [← e1] at h1 ⊢
  rw [h1.last] at l1 l2
  obtain ⟨D2, e2⟩ : ∃ D2, D2 = D1.put (Dr.slot t) (Sup.secT t).data.toList := ⟨_, rfl⟩
  have v2 : D2.Live 2 := by rw [e2]; exact h1.live.put _ _
  have w1 : D2.writes (Dr.slot s) = [] := by rw [e2, Dr.put_other _ _ hst]; exact h1.none _
  have w2 : D2.writes (Dr.slot t) = [(Sup.secT t).data.toList] := by rw [e2, Dr.put_same, h1.none]; rfl
  have f2 : D2.safe = D1.safe := by rw [e2]; rfl
  have p2 : ∀ i, D2.spoilt.getD i false = false := fun i => by rw [e2]; exact Dr.put_spoilt D1 _ _ (h1.spoilt i)
  rw [← e2]
  have v3 : (D2.crash keep).Live 2 := ⟨v2.dead, rfl, (Dr.safeAt_length _ _ _).trans v2.len⟩
  have p3 : ∀ i, (D2.crash keep).spoilt.getD i false = false := p2
  have last3 : ∀ i, (D2.crash keep).last i = (D2.settle (Dr.keeps keep)).safe.getD i [] := fun i => if_pos (show (D2.crash keep).writes i = [] from rfl)
  have a1 : (D2.crash keep).last (Dr.slot s) = (Sup.secT s).data.toList := by
    rw [last3, Dr.settle_idle _ (by rw [v2.len]; exact Dr.slot_lt s) w1, f2]; exact l1
  obtain ⟨b1, b2⟩ := Dr.sl_holds v3 (Dr.slot_lt s) (p3 _) hs bs a1
  obtain ⟨j, _, _, hj⟩ := Dr.settle_busy (Dr.keeps keep) (i := Dr.slot t) (by rw [v2.len]; exact Dr.slot_lt t) (by rw [w2]; exact List.cons_ne_nil _ _)
  rw [← last3, w2, f2, l2] at hj
  have hK := Dr.keeps_le keep j 1
  by_cases h0 : 0 < Dr.keeps keep j [(Sup.secT t).data.toList].length
  · have hk1 : Dr.keeps keep j [(Sup.secT t).data.toList].length = 1 := by have : [(Sup.secT t).data.toList].length = 1 := rfl; rw [this] at h0 ⊢; omega
    rw [if_pos h0, hk1] at hj
    obtain ⟨c1, c2⟩ := Dr.sl_holds v3 (Dr.slot_lt t) (p3 _) ht bt hj
    obtain ⟨r1, r2⟩ := Dr.load_two v3 (Dr.slot_lt t) (Dr.slot_lt s) (fun e => hst e.symm) c2 b2 (by rw [b1, c1]; exact hev)
    exact ⟨r1, .inr (r2.trans c1)⟩
  · rw [if_neg h0] at hj
    have c2 := Dr.sl_bad v3 (Dr.slot_lt t) (p3 _) (by rw [hj]; exact Dr.zero_bad)
    obtain ⟨r1, r2⟩ := Dr.load_one v3 (Dr.slot_lt s) (Dr.slot_lt t) hst b2 c2
    exact ⟨r1, .inl (r2.trans b1)⟩
set_option maxRecDepth 100000 in
set_option maxHeartbeats 400000 in
theorem walk_long (w : World) (u v x y : Int) (a : Option Addr) (cap n : Nat) (hn : n ≤ maxLen) (h : 50 < n) :
    Calls Try.prog 4 #[.int .u64 u, .int .u64 v, .int .u8 x, .int .u8 y, .slice a n cap] w fun e w' => e = .returned (.bool true) ∧ Below w.heap.size w w' := by
  unfold maxLen at hn
  have h1 : (50 : Int) < (n : Int) := by omega
  clear h
  go_enter Try.func4, Try.ntmps4
  go_wp2_with fail
  refine (shown9_any _).mono ?_
  rintro e w1 ⟨rfl, b1⟩
  go_wp2
  go_ret
  exact ⟨rfl, b1⟩
set_option maxRecDepth 100000 in
set_option maxHeartbeats 4000000 in
theorem walk_short (w : World) (u v x y : Nat) (hu : u < 18446744073709551616) (hx : x < 256) (hy : y < 256) (a : Option Addr) (cap : Nat) (keep : List Nat) (hl : keep.length ≤ 50) (hI : RowI .u8 w a keep.length (fun j => ((keep.getD j 0 : Nat) : Int))) (h8 : ∀ j, keep.getD j 0 < 256) :
    Calls Try.prog 4 #[.int .u64 (u : Int), .int .u64 (v : Int), .int .u8 (x : Int), .int .u8 (y : Int), .slice a keep.length cap] w fun e w' => e = .returned (.bool true) ∧ Below w.heap.size w w' := by
  have HMX : Hid (Try.prog.follows .mixedOrders = true) := by show _ = _; kernel_rfl
  obtain ⟨A, hA⟩ : ∃ A : Nat, A = v % 1152921504606846976 := ⟨_, rfl⟩
  have hA60 : A < 1152921504606846976 := by rw [hA]; exact Nat.mod_lt _ (by decide)
  have hAi : (v : Int) % 1152921504606846976 = (A : Int) := by omega
  obtain ⟨A1, hA1⟩ : ∃ A1 : Nat, A1 = A + 1 := ⟨_, rfl⟩
  have hA1i : (A : Int) + 1 = (A1 : Int) := by omega
  have hA1w : IntKind.u64.wrap ((A : Int) + 1) = (A1 : Int) := by rw [IntKind.wrap_u64]; omega
  have hA1z : IntKind.u64.wrap (A1 : Int) = (A1 : Int) := by rw [IntKind.wrap_u64]; omega
  obtain ⟨j, hj⟩ : ∃ j : Nat, j = A1 % 2 := ⟨_, rfl⟩
  have hji : (A1 : Int) % 2 = (j : Int) := by omega
  obtain ⟨n, hn⟩ : ∃ n, n = keep.length := ⟨_, rfl⟩
  have hn50 : ¬ (50 : Int) < (n : Int) := by omega
  have bs := soS_bd (u := u) (e := A) (r := x) hu (by omega)
  have bt := soS_bd (u := u) (e := A1) (r := y) hu (by omega)
  have hst : Dr.slot (soS u A x) ≠ Dr.slot (soS u A1 y) := by show A % 2 ≠ A1 % 2; omega
  have hcl := crash_load (soS_may u A x) (soS_may u A1 y) bs bt hst (by show A < A1; omega) keep
  have hne : soS u A x ≠ soS u A1 y := fun e => by have := congrArg Su.ev e; have : A = A1 := this; omega
  have hsv := (Dr.Live.fresh 2).saves (by decide) (soS_may u A x)
  have hs1 := fun W => some9_any u A x hx W
  have hs2 := fun W => some9_any u A1 y hy W
  have hSave := fun (W : World) (p : Nat) (h : Mine W w.heap.size p (Dr.fresh 2)) => save_mine h (soS u A x) bs (by decide) (Dr.Calm.fresh 2).lens
  rw [hsv.1, hsv.2] at hSave
  obtain ⟨e1, e2, e3⟩ := enc_yes bt (by simpa [Sup.mayB] using soS_may u A1 y)
  have hEnc := fun W => sup_says.enc (soS u A1 y) bt.1 bt.2.1 bt.2.2.1 bt.2.2.2 W
  rw [e1, e2] at hEnc
  have hcalm := (Dr.Calm.fresh 2).saved (soS u A x)
  obtain ⟨D1, eD1⟩ : ∃ D1, D1 = (Dr.fresh 2).savedD (soS u A x) := ⟨_, rfl⟩
  rw [← eD1] at hSave hcl hcalm
  obtain ⟨t, et⟩ : ∃ t, t = Sup.secT (soS u A1 y) := ⟨_, rfl⟩
  rw [← et] at hEnc hcl e3
  rw [show Dr.slot (soS u A1 y) = j from hj.symm] at hcl
  have hW := fun (W : World) (p : Nat) (h : Mine W w.heap.size p D1) => write_mine h hcalm.live j (by omega) t e3 (Nat.le_of_lt (hcalm.lens j))
  obtain ⟨D2, eD2⟩ : ∃ D2, D2 = D1.put j t.data.toList := ⟨_, rfl⟩
  have hlen2 : ∀ i, (D2.writes i).length ≤ 1000000 := fun i => by
    rw [eD2]
    by_cases e : i = j
    · subst e; rw [Dr.put_same, hcalm.none]; simp
    · rw [Dr.put_other _ _ e, hcalm.none]; simp
  rw [← eD2] at hW hcl
  have hCr := fun (W : World) (p : Nat) (h : Mine W w.heap.size p D2) (hI : RowI .u8 W a keep.length (fun j => ((keep.getD j 0 : Nat) : Int))) => crash_mine h hlen2 keep a cap hI (by unfold maxLen; omega) h8
  have hL := fun (W : World) (p : Nat) (h : Mine W w.heap.size p (D2.crash keep)) => load_mine h
  obtain ⟨D3, eD3⟩ : ∃ D3, D3 = D2.crash keep := ⟨_, rfl⟩
  rw [← eD3] at hCr hL hcl
  rw [hcl.1] at hL
  obtain ⟨l1, el1, L1⟩ := sup_letter (soS u A x)
  obtain ⟨l2, el2, L2⟩ := sup_letter (soS u A1 y)
  obtain ⟨l3, el3, L3⟩ := sup_letter D3.loadS
  rw [el1] at hs1 hSave
  rw [el2] at hs2 hEnc
  rw [el3] at hL
  have hE31 := fun W => eqSupL el3 el1 W
  have hE32 := fun W => eqSupL el3 el2 W
  have HCL : Hid (D3.loadS = soS u A x ∨ D3.loadS = soS u A1 y) := hcl.2
  have HNE : Hid (soS u A x ≠ soS u A1 y) := hne
  have HI : Hid (RowI .u8 w a keep.length (fun j => ((keep.getD j 0 : Nat) : Int))) := hI
  have HB : Hid (0 < keep.length → ∀ x, a = some x → x.block < w.heap.size) := fun h0 x hx => by
    obtain ⟨b, off, hab, hc⟩ := hI 0 h0
    rw [hab] at hx; cases hx
    exact World.block_lt_of_cell? w _ hc
  have HSave : Hid _ := hSave
  have HEnc : Hid _ := hEnc
  have HW : Hid _ := hW
  have HCr : Hid _ := hCr
  have HLd : Hid _ := hL
  have HL3 : Hid _ := L3
  have HS1 : Hid _ := hs1
  have HS2 : Hid _ := hs2
  have HN : Hid (n = keep.length) := hn
  have HE31 : Hid _ := hE31
  have HE32 : Hid _ := hE32
  rw [← hn]
  clear bs bt hst hcl hne hsv hs1 hs2 hSave e1 e2 e3 hEnc hcalm eD1 et hW eD2 hlen2 hCr hL eD3 el1 el2 el3 L1 L2 L3 hE31 hE32 hI h8 hl hn hx hy hA hA1 hj hu
  go_enter Try.func4, Try.ntmps4
  go_wp2_with fail
  refine (shown9_any _).mono ?_
  rintro e w1 ⟨rfl, b1⟩
  have B1 : Hid (Below w.heap.size w w1) := b1
  clear b1
  go_wp2_with fail
  refine (new_mine 2 w.heap.size (by omega) (by omega) _ B1.out.size).mono ?_
  rintro e w2 ⟨p, rfl, m2, b2⟩
  have M2 : Hid (Mine w2 w.heap.size p (Dr.fresh 2)) := m2
  have B2 : Hid (Below w.heap.size w w2) := B1.out.trans b2
  clear m2 b2
  go_wp2_with fail
  refine (HS1.out _).mono ?_
  rintro e w3 ⟨rfl, b3⟩
  have M3 : Hid (Mine w3 w.heap.size p (Dr.fresh 2)) := M2.out.below b3
  have B3 : Hid (Below w.heap.size w w3) := below2 B2.out b3
  clear b3
  go_wp2_with fail
  refine (HSave.out w3 p M3.out).mono ?_
  rintro e w4 ⟨rfl, m4, b4⟩
  have M4 : Hid (Mine w4 w.heap.size p D1) := m4
  have B4 : Hid (Below w.heap.size w w4) := B3.out.trans b4
  clear m4 b4
  go_wp2_with fail
  refine (HS2.out _).mono ?_
  rintro e w5 ⟨rfl, b5⟩
  have M5 : Hid (Mine w5 w.heap.size p D1) := M4.out.below b5
  have B5 : Hid (Below w.heap.size w w5) := below2 B4.out b5
  clear b5
  go_wp2_with fail
  refine (HEnc.out _).mono ?_
  rintro e w6 ⟨rfl, b6⟩
  have M6 : Hid (Mine w6 w.heap.size p D1) := M5.out.below b6
  have B6 : Hid (Below w.heap.size w w6) := below2 B5.out b6
  clear b6
  go_wp2_with fail
  refine (HW.out w6 p M6.out).mono ?_
  rintro e w7 ⟨rfl, m7, b7⟩
  have M7 : Hid (Mine w7 w.heap.size p D2) := m7
  have B7 : Hid (Below w.heap.size w w7) := B6.out.trans b7
  clear m7 b7
  go_wp2_with fail
  have hcr := HCr.out w7 p M7.out (HI.out.below B7.out) HB.out
  rw [← HN.out] at hcr
  refine hcr.mono ?_
  rintro e w8 ⟨rfl, m8, b8⟩
  have M8 : Hid (Mine w8 w.heap.size p D3) := m8
  have B8 : Hid (Below w.heap.size w w8) := B7.out.trans b8
  clear m8 b8 hcr
  go_wp2_with fail
  refine (HLd.out w8 p M8.out).mono ?_
  rintro e w9 ⟨rfl, m9, b9⟩
  have B9 : Hid (Below w.heap.size w w9) := below2 B8.out b9
  clear m9 b9
  have T9 : Hid (∀ C : Array Value, C.size = 10 → (w9.alloc (.cells C 30)).there w9.heap.size 0 l3.toArray.size) := fun C hC => by rw [HL3.out.size]; exact there_new w9 C _ 10 (by omega)
  go_upto_region 14 with (first
    | (refine wpList_store_mid rfl 30 _ _ rfl w9.heap.size 0 l3.toArray rfl rfl (T9.out _ rfl) HL3.out.infoA HL3.out.one ?_; change wpList _ _ _ _ _ (World.setCells _ _ _ l3)))
  have hK := keep1_new (t := 30) HL3.out.len B9.out B9.out.size (supL Sup.none).toArray rfl
  rcases HCL.out with hc | hc
  · have hE := HE31.out
    rw [decide_eq_true hc] at hE
    refine region_det (fun W => Keep1 w w9.heap.size l3 w.heap.size W) HMX.out (by kernel_rfl) hK ?_
    refine det_read 0 (v := ?vx4) rfl (by kernel_rfl) rfl ?hyx4 ?restx4
    case hyx4 => (intro wS hSw; (try dsimp only at hSw); go_simp; try with_reducible rfl)
    try simp only [Act.put, List.setIfInBounds_toArray, List.set_cons_zero, List.set_cons_succ]
    refine det_read 1 (v := ?vx5) rfl (by kernel_rfl) rfl ?hyx5 ?restx5
    case hyx5 => (intro wS hSw; (try dsimp only at hSw); go_simp; try with_reducible rfl)
    try simp only [Act.put, List.setIfInBounds_toArray, List.set_cons_zero, List.set_cons_succ]
    refine det_read 2 (v := ?vx6) rfl (by kernel_rfl) rfl ?hyx6 ?restx6
    case hyx6 => (intro wS hSw; (try dsimp only at hSw); go_simp; try with_reducible rfl)
    try simp only [Act.put, List.setIfInBounds_toArray, List.set_cons_zero, List.set_cons_succ]
    refine det_read 3 (v := .agg l3.toArray) rfl (by kernel_rfl) rfl ?hyx1 ?restx1
    case hyx1 => (intro wS hSw; exact (by apply exec_load HL3.out (hc := hSw.1) <;> rfl))
    try simp only [Act.put, List.setIfInBounds_toArray, List.set_cons_zero, List.set_cons_succ]
    refine det_read 4 (v := ?vx7) rfl (by kernel_rfl) rfl ?hyx7 ?restx7
    case hyx7 => (intro wS hSw; (try dsimp only at hSw); go_simp; try with_reducible rfl)
    try simp only [Act.put, List.setIfInBounds_toArray, List.set_cons_zero, List.set_cons_succ]
    refine det_read 5 (v := ?vx8) rfl (by kernel_rfl) rfl ?hyx8 ?restx8
    case hyx8 => (intro wS hSw; (try dsimp only at hSw); go_simp; try with_reducible rfl)
    try simp only [Act.put, List.setIfInBounds_toArray, List.set_cons_zero, List.set_cons_succ]
    refine det_read 6 (v := ?vx9) rfl (by kernel_rfl) rfl ?hyx9 ?restx9
    case hyx9 => (intro wS hSw; (try dsimp only at hSw); go_simp; try with_reducible rfl)
    try simp only [Act.put, List.setIfInBounds_toArray, List.set_cons_zero, List.set_cons_succ]
    refine det_call 7 rfl (by kernel_rfl) rfl ?hyx38 (fun W h => Keep1.det (Nat.le_refl _) (HS1.out W) h) ?restx38
    case hyx38 => (intro wS hSw; go_simp; try with_reducible rfl)
    try simp only [Act.put, List.setIfInBounds_toArray, List.set_cons_zero, List.set_cons_succ]
    refine det_read 8 (v := ?vx10) rfl (by kernel_rfl) rfl ?hyx10 ?restx10
    case hyx10 => (intro wS hSw; (try dsimp only at hSw); go_simp; try with_reducible rfl)
    try simp only [Act.put, List.setIfInBounds_toArray, List.set_cons_zero, List.set_cons_succ]
    refine det_read 9 (v := ?vx11) rfl (by kernel_rfl) rfl ?hyx11 ?restx11
    case hyx11 => (intro wS hSw; (try dsimp only at hSw); go_simp; try with_reducible rfl)
    try simp only [Act.put, List.setIfInBounds_toArray, List.set_cons_zero, List.set_cons_succ]
    refine det_skip 10 rfl (by kernel_rfl) rfl ?restx31
    try simp only [Act.put, List.setIfInBounds_toArray, List.set_cons_zero, List.set_cons_succ]
    refine det_skip 11 rfl (by kernel_rfl) rfl ?restx32
    try simp only [Act.put, List.setIfInBounds_toArray, List.set_cons_zero, List.set_cons_succ]
    refine det_skip 12 rfl (by kernel_rfl) rfl ?restx33
    try simp only [Act.put, List.setIfInBounds_toArray, List.set_cons_zero, List.set_cons_succ]
    refine det_skip 13 rfl (by kernel_rfl) rfl ?restx34
    try simp only [Act.put, List.setIfInBounds_toArray, List.set_cons_zero, List.set_cons_succ]
    refine det_skip 14 rfl (by kernel_rfl) rfl ?restx35
    try simp only [Act.put, List.setIfInBounds_toArray, List.set_cons_zero, List.set_cons_succ]
    refine det_skip 15 rfl (by kernel_rfl) rfl ?restx36
    try simp only [Act.put, List.setIfInBounds_toArray, List.set_cons_zero, List.set_cons_succ]
    refine det_skip 16 rfl (by kernel_rfl) rfl ?restx37
    try simp only [Act.put, List.setIfInBounds_toArray, List.set_cons_zero, List.set_cons_succ]
    refine det_read 17 (v := ?vx12) rfl (by kernel_rfl) rfl ?hyx12 ?restx12
    case hyx12 => (intro wS hSw; (try dsimp only at hSw); go_simp; try with_reducible rfl)
    try simp only [Act.put, List.setIfInBounds_toArray, List.set_cons_zero, List.set_cons_succ]
    refine det_read 18 (v := ?vx13) rfl (by kernel_rfl) rfl ?hyx13 ?restx13
    case hyx13 => (intro wS hSw; (try dsimp only at hSw); go_simp; try with_reducible rfl)
    try simp only [Act.put, List.setIfInBounds_toArray, List.set_cons_zero, List.set_cons_succ]
    refine det_read 19 (v := ?vx14) rfl (by kernel_rfl) rfl ?hyx14 ?restx14
    case hyx14 => (intro wS hSw; (try dsimp only at hSw); go_simp; try with_reducible rfl)
    try simp only [Act.put, List.setIfInBounds_toArray, List.set_cons_zero, List.set_cons_succ]
    refine det_done (by kernel_rfl) ?_
    intro W hW
    go_wp2
    go_ret
    exact ⟨rfl, hW.2.2⟩
  · have hE := HE31.out
    rw [decide_eq_false (fun e => HNE.out (e.symm.trans hc))] at hE
    have hE2 := HE32.out
    rw [decide_eq_true hc] at hE2
    refine region_det (fun W => Keep1 w w9.heap.size l3 w.heap.size W) HMX.out (by kernel_rfl) hK ?_
    refine det_read 0 (v := ?vx15) rfl (by kernel_rfl) rfl ?hyx15 ?restx15
    case hyx15 => (intro wS hSw; (try dsimp only at hSw); go_simp; try with_reducible rfl)
    try simp only [Act.put, List.setIfInBounds_toArray, List.set_cons_zero, List.set_cons_succ]
    refine det_read 1 (v := ?vx16) rfl (by kernel_rfl) rfl ?hyx16 ?restx16
    case hyx16 => (intro wS hSw; (try dsimp only at hSw); go_simp; try with_reducible rfl)
    try simp only [Act.put, List.setIfInBounds_toArray, List.set_cons_zero, List.set_cons_succ]
    refine det_read 2 (v := ?vx17) rfl (by kernel_rfl) rfl ?hyx17 ?restx17
    case hyx17 => (intro wS hSw; (try dsimp only at hSw); go_simp; try with_reducible rfl)
    try simp only [Act.put, List.setIfInBounds_toArray, List.set_cons_zero, List.set_cons_succ]
    refine det_read 3 (v := .agg l3.toArray) rfl (by kernel_rfl) rfl ?hyx2 ?restx2
    case hyx2 => (intro wS hSw; exact (by apply exec_load HL3.out (hc := hSw.1) <;> rfl))
    try simp only [Act.put, List.setIfInBounds_toArray, List.set_cons_zero, List.set_cons_succ]
    refine det_read 4 (v := ?vx18) rfl (by kernel_rfl) rfl ?hyx18 ?restx18
    case hyx18 => (intro wS hSw; (try dsimp only at hSw); go_simp; try with_reducible rfl)
    try simp only [Act.put, List.setIfInBounds_toArray, List.set_cons_zero, List.set_cons_succ]
    refine det_read 5 (v := ?vx19) rfl (by kernel_rfl) rfl ?hyx19 ?restx19
    case hyx19 => (intro wS hSw; (try dsimp only at hSw); go_simp; try with_reducible rfl)
    try simp only [Act.put, List.setIfInBounds_toArray, List.set_cons_zero, List.set_cons_succ]
    refine det_read 6 (v := ?vx20) rfl (by kernel_rfl) rfl ?hyx20 ?restx20
    case hyx20 => (intro wS hSw; (try dsimp only at hSw); go_simp; try with_reducible rfl)
    try simp only [Act.put, List.setIfInBounds_toArray, List.set_cons_zero, List.set_cons_succ]
    refine det_call 7 rfl (by kernel_rfl) rfl ?hyx39 (fun W h => Keep1.det (Nat.le_refl _) (HS1.out W) h) ?restx39
    case hyx39 => (intro wS hSw; go_simp; try with_reducible rfl)
    try simp only [Act.put, List.setIfInBounds_toArray, List.set_cons_zero, List.set_cons_succ]
    refine det_read 8 (v := ?vx21) rfl (by kernel_rfl) rfl ?hyx21 ?restx21
    case hyx21 => (intro wS hSw; (try dsimp only at hSw); go_simp; try with_reducible rfl)
    try simp only [Act.put, List.setIfInBounds_toArray, List.set_cons_zero, List.set_cons_succ]
    refine det_read 9 (v := ?vx22) rfl (by kernel_rfl) rfl ?hyx22 ?restx22
    case hyx22 => (intro wS hSw; (try dsimp only at hSw); go_simp; try with_reducible rfl)
    try simp only [Act.put, List.setIfInBounds_toArray, List.set_cons_zero, List.set_cons_succ]
    refine det_read 10 (v := .agg l3.toArray) rfl (by kernel_rfl) rfl ?hyx3 ?restx3
    case hyx3 => (intro wS hSw; exact (by apply exec_load HL3.out (hc := hSw.1) <;> rfl))
    try simp only [Act.put, List.setIfInBounds_toArray, List.set_cons_zero, List.set_cons_succ]
    refine det_read 11 (v := ?vx23) rfl (by kernel_rfl) rfl ?hyx23 ?restx23
    case hyx23 => (intro wS hSw; (try dsimp only at hSw); go_simp; try with_reducible rfl)
    try simp only [Act.put, List.setIfInBounds_toArray, List.set_cons_zero, List.set_cons_succ]
    refine det_read 12 (v := ?vx24) rfl (by kernel_rfl) rfl ?hyx24 ?restx24
    case hyx24 => (intro wS hSw; (try dsimp only at hSw); go_simp; try with_reducible rfl)
    try simp only [Act.put, List.setIfInBounds_toArray, List.set_cons_zero, List.set_cons_succ]
    refine det_read 13 (v := ?vx25) rfl (by kernel_rfl) rfl ?hyx25 ?restx25
    case hyx25 => (intro wS hSw; (try dsimp only at hSw); go_simp; try with_reducible rfl)
    try simp only [Act.put, List.setIfInBounds_toArray, List.set_cons_zero, List.set_cons_succ]
    refine det_read 14 (v := ?vx26) rfl (by kernel_rfl) rfl ?hyx26 ?restx26
    case hyx26 => (intro wS hSw; (try dsimp only at hSw); go_simp; try with_reducible rfl)
    try simp only [Act.put, List.setIfInBounds_toArray, List.set_cons_zero, List.set_cons_succ]
    refine det_call 15 rfl (by kernel_rfl) rfl ?hyx40 (fun W h => Keep1.det (Nat.le_refl _) (HS2.out W) h) ?restx40
    case hyx40 => (intro wS hSw; go_simp; try with_reducible rfl)
    try simp only [Act.put, List.setIfInBounds_toArray, List.set_cons_zero, List.set_cons_succ]
    refine det_read 16 (v := ?vx27) rfl (by kernel_rfl) rfl ?hyx27 ?restx27
    case hyx27 => (intro wS hSw; (try dsimp only at hSw); go_simp; try with_reducible rfl)
    try simp only [Act.put, List.setIfInBounds_toArray, List.set_cons_zero, List.set_cons_succ]
    refine det_read 17 (v := ?vx28) rfl (by kernel_rfl) rfl ?hyx28 ?restx28
    case hyx28 => (intro wS hSw; (try dsimp only at hSw); go_simp; try with_reducible rfl)
    try simp only [Act.put, List.setIfInBounds_toArray, List.set_cons_zero, List.set_cons_succ]
    refine det_read 18 (v := ?vx29) rfl (by kernel_rfl) rfl ?hyx29 ?restx29
    case hyx29 => (intro wS hSw; (try dsimp only at hSw); go_simp; try with_reducible rfl)
    try simp only [Act.put, List.setIfInBounds_toArray, List.set_cons_zero, List.set_cons_succ]
    refine det_read 19 (v := ?vx30) rfl (by kernel_rfl) rfl ?hyx30 ?restx30
    case hyx30 => (intro wS hSw; (try dsimp only at hSw); go_simp; try with_reducible rfl)
    try simp only [Act.put, List.setIfInBounds_toArray, List.set_cons_zero, List.set_cons_succ]
    refine det_done (by kernel_rfl) ?_
    intro W hW
    go_wp2
    go_ret
    exact ⟨rfl, hW.2.2⟩
theorem walk (w : World) (a0 : Int) (w0 : (Lit.int .u64 a0).wf = true) (a1 : Int) (w1 : (Lit.int .u64 a1).wf = true) (a2 : Int) (w2 : (Lit.int .u8 a2).wf = true) (a3 : Int) (w3 : (Lit.int .u8 a3).wf = true) (a4 : Option Addr) (len4 cap4 : Nat) (z4 : List Int) (w4 : IsRow .u8 w a4 len4 cap4 z4) :
    Calls Try.prog 4 #[.int .u64 a0, .int .u64 a1, .int .u8 a2, .int .u8 a3, .slice a4 len4 cap4] w fun e w' => e = .returned (.bool true) ∧ Below w.heap.size w w' := by
  obtain ⟨l, hll, hm, h8, hri⟩ := w4.rowN 256 (by decide) (fun y hy => by have := bounds_u8 hy; omega)
  subst hll
  by_cases h : 50 < l.length
  · exact walk_long w a0 a1 a2 a3 a4 cap4 _ hm h
  · obtain ⟨u, rfl, hu⟩ := u64_nat w0
    obtain ⟨v, rfl, _⟩ := u64_nat w1
    obtain ⟨x, rfl, hx⟩ := u8_nat w2
    obtain ⟨y, rfl, hy⟩ := u8_nat w3
    exact walk_short w u v x y hu hx hy a4 cap4 l (by omega) hri h8

theorem own : ownKnob Try.prog.godebug = none := by kernel_rfl
theorem laidOut : laidOutB Try.prog = true := by kernel_rfl
set_option linter.unusedVariables false in
set_option maxRecDepth 100000 in
theorem lifted (os : Os) (started : os.Started) (H : Type) (enc : TypeId × Value → H) :
    ReturnsInHanded {} Try.checked os 4 .any (Rows.slotsCrashSpec.pre6 enc Try.prog Try.f4 Rows.slotsCrashRow.domain false) (Rows.slotsCrashSpec.post enc Try.prog Try.f4 false true false false) := by
  refine returnsInHanded_of_change (C := Try.checked) own started (by kernel_rfl) Try.func4
    (ChangeSpec.witness6 (enc := enc) (C := Try.checked) false ⟨#[], #[.int .u64 0, .int .u64 0, .int .u8 0, .int .u8 0, .slice none 0 0], []⟩ 8 (by kernel_rfl) (by kernel_rfl) (by kernel_rfl) (by kernel_rfl)) ?_
  intro W base args ds gs before hval0 hW hcnd _
  have hval : ∀ (j : Nat) t v, Try.f4.params[j]? = some t → args[j]? = some v → Value.okWide Try.prog W .any base t v := hval0
  have hW' := hW
  obtain ⟨p, q, hA0, hV, rfl, hfz, hnd⟩ := hW
  have hA : DataW.TrodAll enc Try.prog W 0 (fun _ => true) true Try.f4.params.toList args.toList ds p := hA0
  rw [Try.params4] at hA hval
  obtain ⟨v0, vs0, d0, ds0, p0, q0, hargs, rfl, rfl, h0, r0⟩ := trodAll_cons hA
  obtain ⟨v1, vs1, d1, ds1, p1, q1, rfl, rfl, rfl, h1, r1⟩ := trodAll_cons r0
  obtain ⟨v2, vs2, d2, ds2, p2, q2, rfl, rfl, rfl, h2, r2⟩ := trodAll_cons r1
  obtain ⟨v3, vs3, d3, ds3, p3, q3, rfl, rfl, rfl, h3, r3⟩ := trodAll_cons r2
  obtain ⟨v4, vs4, d4, ds4, p4, q4, rfl, rfl, rfl, h4, r4⟩ := trodAll_cons r3
  obtain ⟨rfl, rfl, rfl⟩ := trodAll_nil r4
  obtain rfl : args = #[v0, v1, v2, v3, v4] := by cases args; simp_all
  obtain ⟨rfl, rfl⟩ := trodVars_none hV
  obtain ⟨a0, rfl, rfl, rfl, w0⟩ := open_int Try.underlying22 (hval 0 22 v0 rfl rfl) h0
  obtain ⟨a1, rfl, rfl, rfl, w1⟩ := open_int Try.underlying22 (hval 1 22 v1 rfl rfl) h1
  obtain ⟨a2, rfl, rfl, rfl, w2⟩ := open_int Try.underlying5 (hval 2 5 v2 rfl rfl) h2
  obtain ⟨a3, rfl, rfl, rfl, w3⟩ := open_int Try.underlying5 (hval 3 5 v3 rfl rfl) h3
  obtain ⟨a4, len4, cap4, rfl⟩ := okWide_slice Try.underlying23 (hval 4 23 v4 rfl rfl)
  have k4 := h4
  have lt4 : ∀ x ∈ p4, x.block < W.heap.size := by obtain ⟨m, hm⟩ := k4; exact DataW.trod_lt m _ _ _ hm
  obtain ⟨z4, w4⟩ : ∃ zs, IsRow .u8 W a4 len4 cap4 zs := by
    obtain ⟨fuel, hf⟩ := h4
    rcases open_ints Try.underlying23 Try.underlying5 (by kernel_rfl) hf with ⟨hcs, _⟩ | ⟨x, l, c, zs, hcs, _, hl, hm, hz, _, hcell, hwz⟩
    · simp [Value.cells] at hcs
      obtain ⟨rfl, rfl, rfl⟩ := hcs
      exact ⟨[], .inl ⟨rfl, rfl, rfl, rfl⟩⟩
    · simp [Value.cells] at hcs
      obtain ⟨rfl, rfl, rfl⟩ := hcs
      exact ⟨zs, .inr ⟨_, rfl, hl, hm, by simpa using hz, hcell, hwz⟩⟩
  clear hA0 hval0
  simp only [List.append_nil] at hW'
  refine (walk W a0 w0 a1 w1 a2 w2 a3 w3 a4 len4 cap4 z4 w4).mono fun e W' ⟨he, hg⟩ => ?_
  subst he
  exact ⟨_, rfl, _, _, _, [], _, [], hW', trodAll_mk1 (shut_bool Try.underlying4 _), (trodAll_cons_mk (shut_int Try.underlying22 w0) (trodAll_cons_mk (shut_int Try.underlying22 w1) (trodAll_cons_mk (shut_int Try.underlying5 w2) (trodAll_cons_mk (shut_int Try.underlying5 w3) (trodAll_cons_mk (Below.trod laidOut (by kernel_rfl) (of_decide_eq_true (by kernel_rfl)) k4 hg lt4) trodAll_mk0))))), rfl, hg.frame _, fun h => by cases h⟩
/-- For every input the law returns true, and each argument reads as it did. -/
theorem proved : Rows.SlotsCrashSaid :=
  OpenClaim.holds_of_wide 4 Try.f4 rfl rfl rfl rfl rfl rfl rfl ⟨rfl, rfl, rfl, rfl, rfl⟩ rfl rfl rfl rfl rfl (by kernel_rfl) Try.func4 (by kernel_rfl)
    (of_decide_eq_true (by kernel_rfl)) (by unfold Func.isWrapper; first | (rw [if_pos (by decide +kernel)]; kernel_rfl) | (rw [if_neg (by decide +kernel)]; exact ⟨rfl, rfl⟩))
    (fun os started H enc _ => lifted os started H enc)
end Go.Proofs.Ytgkhnfchohcjeaa.slotsCrash
