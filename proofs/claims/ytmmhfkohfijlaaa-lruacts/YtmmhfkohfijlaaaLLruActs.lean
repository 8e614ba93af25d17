/- For every room and every list of calls the law LruActs returns true: whatever is put, wanted, pinned and dropped, a list answers, and has, what the document says (up to the law's own bound on lengths; beyond it the law says nothing). No condition. -/
import Derived.Test.YtmmhfkohfijlaaaLrDoes
import Derived.Test.YtmmhfkohfijlaaaKitAct14
import Derived.Deep.LoopGhost
import Derived.ProofKit
import Derived.OpenShut
import Derived.Below
import Derived.ChangeOld
namespace Go.Proofs.Ytmmhfkohfijlaaa.lruActs
open Go.ChangeShapes Go.WideShapes Go.ChangeAt Go.RowKit Lr
attribute [local go_sem] Oper.semAt_some

set_option maxRecDepth 100000 in
set_option maxHeartbeats 1000000 in
theorem walk_big (r : Int) (a : Option Addr) (n cap : Nat) (hn : 300 < n) (w : World) :
    Calls Try.prog 3 #[.int .i64 r, .slice a n cap] w fun e w' => e = .returned (.bool true) ∧ Below w.heap.size w w' := by
  have hn' : (300 : Int) < (n : Int) := by omega
  go_enter Try.func3, Try.ntmps3
  go_wp2_with fail
  refine (shown14_any w).mono ?_
  rintro e w1 ⟨rfl, b1⟩
  go_wp2
  go_ret
  exact ⟨rfl, b1⟩
set_option maxRecDepth 100000 in
set_option maxHeartbeats 1000000 in
theorem walk_none (r : Int) (a : Option Addr) (n cap : Nat) (hn : n ≤ 300) (hr : ¬ (1 ≤ r ∧ r ≤ 64)) (w : World) :
    Calls Try.prog 3 #[.int .i64 r, .slice a n cap] w fun e w' => e = .returned (.bool true) ∧ Below w.heap.size w w' := by
  have hn' : ¬ (300 : Int) < (n : Int) := by omega
  have HR : Hid (¬ (1 ≤ r ∧ r ≤ 64)) := hr
  clear hr
  go_enter Try.func3, Try.ntmps3
  go_wp2_with fail
  refine (shown14_any w).mono ?_
  rintro e w1 ⟨rfl, b1⟩
  have B1 : Hid (Below w.heap.size w w1) := b1
  clear b1
  go_wp2_with fail
  refine (New_no r HR.out w1).mono ?_
  rintro e w2 ⟨rfl, rfl⟩
  go_wp2_with fail
  refine (rNew14_no r HR.out _).mono ?_
  rintro e w3 ⟨rfl, rfl⟩
  go_wp2
  go_ret
  exact ⟨rfl, B1.out⟩

/-- both lists, made anew -/
theorem duo_new {w1 w2 w3 : World} {B p rp room : Nat} (h2 : LruAt w2 p room [] (fun k => w1.heap.size ≤ k)) (h3 : RefAt w3 rp room [] (fun k => w2.heap.size ≤ k)) (hb : Below w2.heap.size w2 w3) (hB : B ≤ w1.heap.size) (h12 : w1.heap.size ≤ w2.heap.size) :
    Duo w3 (fun k => B ≤ k ∧ k < w3.heap.size) p rp room [] [] := by
  refine ⟨_, _, h2.tight.below hb, h3.tight, fun k hk => ?_, fun k hk => ?_, fun k hk hg => ?_⟩
  · have h4 := hb.size
    have h5 := hk.1
    have h6 := hk.2
    exact ⟨⟨by omega, by omega⟩, by omega⟩
  · have h5 := hk.1
    have h6 := hk.2
    exact ⟨⟨by omega, by omega⟩, by omega⟩
  · have h5 := hk.2
    have h6 := hg.1
    omega

set_option maxRecDepth 100000 in
set_option maxHeartbeats 16000000 in
theorem core (room : Nat) (hr1 : 1 ≤ room) (hr64 : room ≤ 64) (N cap : Nat) (hN : N ≤ 300) (a : Option Addr) (f : Nat → Act14) (w : World)
    (hA : 0 < N → ∃ b off, a = some ⟨b, off, none⟩ ∧ ∀ j, j < N → ActAt14 w b (off + j * 2) (f j)) :
    Calls Try.prog 3 #[.int .i64 (room : Nat), .slice a N cap] w fun e w' => e = .returned (.bool true) ∧ Below w.heap.size w w' := by
  have hn' : ¬ (300 : Int) < (N : Int) := by omega
  have HA : Hid (0 < N → ∃ b off, a = some ⟨b, off, none⟩ ∧ ∀ j, j < N → ActAt14 w b (off + j * 2) (f j)) := hA
  have HMX : Hid (Try.prog.follows .mixedOrders = true) := by show _ = _; kernel_rfl
  have HR1 : Hid (1 ≤ room) := hr1
  clear hA hr1
  go_enter Try.func3, Try.ntmps3
  go_wp2_with fail
  refine (shown14_any w).mono ?_
  rintro e w1 ⟨rfl, b1⟩
  have B1 : Hid (Below w.heap.size w w1) := b1
  clear b1
  go_wp2_with fail
  refine (New_lru room HR1.out hr64 w1).mono ?_
  rintro e w2 ⟨p, rfl, m2, b2⟩
  have M2 : Hid (LruAt w2 p room [] (fun k => w1.heap.size ≤ k)) := m2
  have B2 : Hid (Below w1.heap.size w1 w2) := b2
  clear m2 b2
  go_wp2_with fail
  refine (rNew14_yes room HR1.out hr64 w2).mono ?_
  rintro e w3 ⟨rp, rfl, m3, b3⟩
  have D3 : Hid (Duo w3 (fun k => w.heap.size ≤ k ∧ k < w3.heap.size) p rp room [] []) := duo_new M2.out m3 b3 B1.out.size B2.out.size
  have B3 : Hid (Below w.heap.size w w3) := (B1.out.trans (B2.out.mono B1.out.size)).trans (b3.mono (Nat.le_trans B1.out.size B2.out.size))
  clear m3 b3 M2 B2 B1
  go_wp2_with fail
  go_loopg [7] N (fun g s7 wr => ∃ (j : Nat) (l : L), j ≤ N ∧ g = N - j ∧ s7 = .int .i64 (j : Int) ∧ Duo wr (fun k => w.heap.size ≤ k ∧ k < wr.heap.size) p rp room l l ∧ Most l j ∧ Below w.heap.size w wr)
  case atStart => exact ⟨0, [], Nat.zero_le _, rfl, rfl, D3.out, fun x hx => absurd hx List.not_mem_nil, B3.out⟩
  case round =>
    obtain ⟨j, l, hj, rfl, rfl, hD, hM, hb⟩ := hrel
    clear D3 B3
    obtain ⟨W, hW⟩ : ∃ W, W = wr := ⟨wr, rfl⟩
    subst hW
    by_cases hlt : j < N
    · obtain ⟨ab, ao, rfl, hact⟩ := HA.out (by omega)
      have ha := hact j hlt
      obtain ⟨⟨kind, key⟩, hx⟩ : ∃ x, x = f j := ⟨_, rfl⟩
      rw [← hx] at ha
      have a0 := ha.c0
      have a1 := ha.c1
      dsimp only at a0 a1
      have hbk := bounds_i64 ha.i
      have hok : Ok key := ⟨by have := hbk.1; exact this, by have := hbk.2; exact this⟩
      have HOK : Hid (Ok key) := hok
      have alt := World.block_lt_of_cell? w _ a0
      have CS : Hid (∀ X, Below w.heap.size w X → X.cell? ⟨ab, ao + j * 2, none⟩ = some (.int .i64 kind) ∧ X.cell? ⟨ab, ao + j * 2 + 1, none⟩ = some (.int .i64 key)) := fun X hX => ⟨(hX.cell (p := ⟨ab, ao + j * 2, none⟩) alt).trans a0, (hX.cell (p := ⟨ab, ao + j * 2 + 1, none⟩) alt).trans a1⟩
      obtain ⟨D, hDe⟩ : ∃ D : Nat → Prop, D = fun k => w.heap.size ≤ k ∧ k < W.heap.size := ⟨_, rfl⟩
      rw [← hDe] at hD
      have HDI : Hid (∀ k, D k → w.heap.size ≤ k ∧ k < W.heap.size) := by rw [hDe]; exact fun k h => h
      have HD : Hid (Duo W D p rp room l l) := hD
      have HB : Hid (Below w.heap.size w W) := hb
      have hpq : pins l key < 1000000000 := by have := hM.le key; omega
      have hdoes := does_any (w := W.drew) (hD.below ((Below.refl _ W).drew)) (fun k hk => (HDI.out k hk).2) kind key hok hpq
      obtain ⟨l1, hl1⟩ : ∃ l1, l1 = actL l kind key room := ⟨_, rfl⟩
      have HM1 : Hid (Most l1 (j + 1)) := by rw [hl1]; exact hM.act kind key room
      have HDOES : Hid (Calls Try.prog 11 #[.pointer (some ⟨p, 0, none⟩), .pointer (some ⟨rp, 0, none⟩), .agg #[.int .i64 kind, .int .i64 key]] W.drew fun e w' => e = .returned (.bool true) ∧ Duo w' (Plus D W.heap.size) p rp room l1 l1 ∧ Only D W.drew w') := by rw [hl1]; exact hdoes
      have hS0 := CS.out W hb
      obtain ⟨q0, q1⟩ := hS0
      clear ha a0 a1 hbk hok alt hDe hD hM hb hpq hdoes hl1 hact hx
      go_wp2_with fail
      refine wp_region_held (S := fun X => X.cell? ⟨ab, ao + j * 2, none⟩ = some (.int .i64 kind) ∧ X.cell? ⟨ab, ao + j * 2 + 1, none⟩ = some (.int .i64 key)) HMX.out ?_
      have hS : (fun X : World => X.cell? ⟨ab, ao + j * 2, none⟩ = some (.int .i64 kind) ∧ X.cell? ⟨ab, ao + j * 2 + 1, none⟩ = some (.int .i64 key)) W.drew := ⟨q0, q1⟩
      change wpAnyH _ _ _ _ _ _ _ _ W.drew
      refine held_quiet 0 (v := ?v0q1) rfl (by kernel_rfl) (fun _ _ _ h => h) (by assumption) rfl ?hy0q1 ?rest0q1
      case hy0q1 => (intro wS hSw; (try dsimp only at hSw); go_simp; try with_reducible rfl)
      try simp only [Act.put, List.setIfInBounds_toArray, List.set_cons_zero, List.set_cons_succ]
      refine held_quiet 1 (v := ?v1q2) rfl (by kernel_rfl) (fun _ _ _ h => h) (by assumption) rfl ?hy1q2 ?rest1q2
      case hy1q2 => (intro wS hSw; (try dsimp only at hSw); go_simp; try with_reducible rfl)
      try simp only [Act.put, List.setIfInBounds_toArray, List.set_cons_zero, List.set_cons_succ]
      refine held_quiet 2 (v := ?v2q3) rfl (by kernel_rfl) (fun _ _ _ h => h) (by assumption) rfl ?hy2q3 ?rest2q3
      case hy2q3 => (intro wS hSw; (try dsimp only at hSw); go_simp; try with_reducible rfl)
      try simp only [Act.put, List.setIfInBounds_toArray, List.set_cons_zero, List.set_cons_succ]
      refine held_quiet 3 (v := ?v3q4) rfl (by kernel_rfl) (fun _ _ _ h => h) (by assumption) rfl ?hy3q4 ?rest3q4
      case hy3q4 => (intro wS hSw; (try dsimp only at hSw); go_simp; try with_reducible rfl)
      try simp only [Act.put, List.setIfInBounds_toArray, List.set_cons_zero, List.set_cons_succ]
      refine held_quiet 4 (v := ?v4q5) rfl (by kernel_rfl) (fun _ _ _ h => h) (by assumption) rfl ?hy4q5 ?rest4q5
      case hy4q5 => (intro wS hSw; (try dsimp only at hSw); go_simp; try with_reducible rfl)
      try simp only [Act.put, List.setIfInBounds_toArray, List.set_cons_zero, List.set_cons_succ]
      refine held_quiet 5 (v := ?v5q6) rfl (by kernel_rfl) (fun _ _ _ h => h) (by assumption) rfl ?hy5q6 ?rest5q6
      case hy5q6 => (intro wS hSw; (try dsimp only at hSw); go_simp; try with_reducible rfl)
      try simp only [Act.put, List.setIfInBounds_toArray, List.set_cons_zero, List.set_cons_succ]
      refine held_one 6 rfl (by kernel_rfl) ?_
      go_wp2_with (go_at_call 11; refine HDOES.out.mono ?_; rintro e w1 ⟨rfl, hd1, ho1⟩)
      have hB1 : Below w.heap.size w w1 := HB.out.trans ((Below.refl w.heap.size W).drew.trans (ho1.below (fun k hk => (HDI.out k hk).1) HB.out.size))
      have HB1 : Hid (Below w.heap.size w w1) := hB1
      have hS1 := CS.out w1 hB1
      try refine ⟨hS1, ?_⟩
      have hS : (fun X : World => X.cell? ⟨ab, ao + j * 2, none⟩ = some (.int .i64 kind) ∧ X.cell? ⟨ab, ao + j * 2 + 1, none⟩ = some (.int .i64 key)) w1 := hS1
      have HD1 : Hid (Duo w1 (Plus D W.heap.size) p rp room l1 l1) := hd1
      have HLN : Hid (l1.length ≤ 1000) := hd1.len
      obtain ⟨⟨F1, hlr⟩, ⟨G1, vk, vp, hrf, _, _, _⟩⟩ := hd1.looks
      have rc1 := hrf.c1
      have rlt := hrf.lt
      obtain ⟨m, hm⟩ : ∃ m, m = l1.length := ⟨_, rfl⟩
      have HML : Hid (m ≤ 1048576) := by show _ ≤ _; have := HLN.out; omega
      have hrk := hrf.k
      rw [← hm] at hrk
      obtain ⟨ra, rc, rfl, hRR, _⟩ := RowI.of_owns (k := .i64) hrk
      have hkeys := Keys_all hlr
      rw [← hm] at hkeys
      have HRR1 : Hid (RowI .i64 w1 ra m (fun j => (keys l1).getD j 0)) := hRR
      have HKEYS : Hid (Calls Try.prog 13 #[.pointer (some ⟨p, 0, none⟩)] w1 fun r w' => (∃ ka kc, r = .returned (.slice ka m kc) ∧ RowI .i64 w' ka m (fun j => (keys l1).getD j 0)) ∧ Below w1.heap.size w1 w') := hkeys.mono fun e w' ⟨⟨v, he, ho⟩, hb⟩ => by
        obtain ⟨ka, kc, rfl, hR, _⟩ := RowI.of_owns (k := .i64) ho
        exact ⟨⟨ka, kc, he, hR⟩, hb⟩
      obtain ⟨q, hq⟩ : ∃ q, q = pins l1 key := ⟨_, rfl⟩
      have HQ1 : Hid (q = pins l1 key) := hq
      clear hd1 ho1 hB1 hlr hrf hrk hRR hkeys hm hq HDOES q0 q1
      refine held_quiet 7 (v := ?v7q7) rfl (by kernel_rfl) (fun _ _ _ h => h) (by assumption) rfl ?hy7q7 ?rest7q7
      case hy7q7 => (intro wS hSw; (try dsimp only at hSw); go_simp; try with_reducible rfl)
      try simp only [Act.put, List.setIfInBounds_toArray, List.set_cons_zero, List.set_cons_succ]
      refine held_quiet 8 (v := ?v8q8) rfl (by kernel_rfl) (fun _ _ _ h => h) (by assumption) rfl ?hy8q8 ?rest8q8
      case hy8q8 => (intro wS hSw; (try dsimp only at hSw); go_simp; try with_reducible rfl)
      try simp only [Act.put, List.setIfInBounds_toArray, List.set_cons_zero, List.set_cons_succ]
      refine held_quiet 9 (v := ?v9q9) rfl (by kernel_rfl) (fun _ _ _ h => h) (by assumption) rfl ?hy9q9 ?rest9q9
      case hy9q9 => (intro wS hSw; (try dsimp only at hSw); go_simp; try with_reducible rfl)
      try simp only [Act.put, List.setIfInBounds_toArray, List.set_cons_zero, List.set_cons_succ]
      refine held_quiet 11 (v := ?v11q10) rfl (by kernel_rfl) (fun _ _ _ h => h) (by assumption) rfl ?hy11q10 ?rest11q10
      case hy11q10 => (intro wS hSw; (try dsimp only at hSw); go_simp; try with_reducible rfl)
      try simp only [Act.put, List.setIfInBounds_toArray, List.set_cons_zero, List.set_cons_succ]
      refine held_quiet 12 (v := ?v12q11) rfl (by kernel_rfl) (fun _ _ _ h => h) (by assumption) rfl ?hy12q11 ?rest12q11
      case hy12q11 => (intro wS hSw; (try dsimp only at hSw); go_simp; try with_reducible rfl)
      try simp only [Act.put, List.setIfInBounds_toArray, List.set_cons_zero, List.set_cons_succ]
      refine held_quiet 13 (v := ?v13q12) rfl (by kernel_rfl) (fun _ _ _ h => h) (by assumption) rfl ?hy13q12 ?rest13q12
      case hy13q12 => (intro wS hSw; (try dsimp only at hSw); go_simp; try with_reducible rfl)
      try simp only [Act.put, List.setIfInBounds_toArray, List.set_cons_zero, List.set_cons_succ]
      refine held_two 10 14 rfl rfl (by kernel_rfl) ?_ ?_
      · go_wp2_with (go_at_call 13; refine HKEYS.out.mono ?_; rintro e w2 ⟨⟨ka, kc, rfl, hkr⟩, hb2⟩)
        have hB2 : Below w.heap.size w w2 := HB1.out.trans (hb2.mono HB1.out.size)
        have HB2 : Hid (Below w.heap.size w w2) := hB2
        have hS2 := CS.out w2 hB2
        have rc2 : w2.cell? ⟨rp, 1, none⟩ = some (.slice ra m rc) := (hb2.cell (p := ⟨rp, 1, none⟩) rlt).trans rc1
        have HKR : Hid (RowI .i64 w2 ka m (fun j => (keys l1).getD j 0)) := hkr
        have HRR : Hid (RowI .i64 w2 ra m (fun j => (keys l1).getD j 0)) := HRR1.out.below hb2
        have HD2 : Hid (Duo w2 (Plus D W.heap.size) p rp room l1 l1) := HD1.out.below hb2
        try refine ⟨hS2, ?_⟩
        have hS : (fun X : World => X.cell? ⟨ab, ao + j * 2, none⟩ = some (.int .i64 kind) ∧ X.cell? ⟨ab, ao + j * 2 + 1, none⟩ = some (.int .i64 key)) w2 := hS2
        clear hkr hb2 hB2 rc1 HKEYS
        refine held_one 14 rfl (by kernel_rfl) ?_
        go_wp2
        try refine ⟨hS2, ?_⟩
        refine held_one 15 rfl (by kernel_rfl) ?_
        go_wp2_with (go_at_call 12; refine (same_rows ka ra m kc rc _ HML.out w2 HKR.out HRR.out).mono ?_; rintro e w3 ⟨rfl, hb3⟩)
        have hB3 : Below w.heap.size w w3 := HB2.out.trans (hb3.mono HB2.out.size)
        have HB3 : Hid (Below w.heap.size w w3) := hB3
        have HD3 : Hid (Duo w3 (Plus D W.heap.size) p rp room l1 l1) := HD2.out.below hb3
        have hS3 := CS.out w3 hB3
        try refine ⟨hS3, ?_⟩
        have hS : (fun X : World => X.cell? ⟨ab, ao + j * 2, none⟩ = some (.int .i64 kind) ∧ X.cell? ⟨ab, ao + j * 2 + 1, none⟩ = some (.int .i64 key)) w3 := hS3
        obtain ⟨⟨F3, hl3⟩, ⟨G3, hr3⟩⟩ := HD3.out.looks
        have HP3 : Hid (Calls Try.prog 14 #[.pointer (some ⟨p, 0, none⟩), .int .i64 key] w3 fun r w' => r = .returned (.int .i64 (q : Nat)) ∧ w' = w3) := by rw [HQ1.out]; exact Pinned_any hl3 HOK.out
        have HR3 : Hid (Calls Try.prog 15 #[.pointer (some ⟨rp, 0, none⟩), .int .i64 key] w3 fun r w' => r = .returned (.int .i64 (q : Nat)) ∧ w' = w3) := by rw [HQ1.out]; exact rPinned14_any hr3 HLN.out key
        clear hb3 hB3 hl3 hr3
        refine held_quiet 16 (v := ?v16q13) rfl (by kernel_rfl) (fun _ _ _ h => h) (by assumption) rfl ?hy16q13 ?rest16q13
        case hy16q13 => (intro wS hSw; (try dsimp only at hSw); go_simp; try with_reducible rfl)
        try simp only [Act.put, List.setIfInBounds_toArray, List.set_cons_zero, List.set_cons_succ]
        refine held_quiet 17 (v := ?v17q14) rfl (by kernel_rfl) (fun _ _ _ h => h) (by assumption) rfl ?hy17q14 ?rest17q14
        case hy17q14 => (intro wS hSw; (try dsimp only at hSw); go_simp; try with_reducible rfl)
        try simp only [Act.put, List.setIfInBounds_toArray, List.set_cons_zero, List.set_cons_succ]
        refine held_quiet 18 (v := ?v18q15) rfl (by kernel_rfl) (fun _ _ _ h => h) (by assumption) rfl ?hy18q15 ?rest18q15
        case hy18q15 => (intro wS hSw; (try dsimp only at hSw); go_simp; try with_reducible rfl)
        try simp only [Act.put, List.setIfInBounds_toArray, List.set_cons_zero, List.set_cons_succ]
        refine held_quiet 19 (v := ?v19q16) rfl (by kernel_rfl) (fun _ _ _ h => h) (by assumption) rfl ?hy19q16 ?rest19q16
        case hy19q16 => (intro wS hSw; (try dsimp only at hSw); go_simp; try with_reducible rfl)
        try simp only [Act.put, List.setIfInBounds_toArray, List.set_cons_zero, List.set_cons_succ]
        refine held_quiet 20 (v := ?v20q17) rfl (by kernel_rfl) (fun _ _ _ h => h) (by assumption) rfl ?hy20q17 ?rest20q17
        case hy20q17 => (intro wS hSw; (try dsimp only at hSw); go_simp; try with_reducible rfl)
        try simp only [Act.put, List.setIfInBounds_toArray, List.set_cons_zero, List.set_cons_succ]
        refine held_quiet 21 (v := ?v21q18) rfl (by kernel_rfl) (fun _ _ _ h => h) (by assumption) rfl ?hy21q18 ?rest21q18
        case hy21q18 => (intro wS hSw; (try dsimp only at hSw); go_simp; try with_reducible rfl)
        try simp only [Act.put, List.setIfInBounds_toArray, List.set_cons_zero, List.set_cons_succ]
        refine held_quiet 22 (v := ?v22q19) rfl (by kernel_rfl) (fun _ _ _ h => h) (by assumption) rfl ?hy22q19 ?rest22q19
        case hy22q19 => (intro wS hSw; (try dsimp only at hSw); go_simp; try with_reducible rfl)
        try simp only [Act.put, List.setIfInBounds_toArray, List.set_cons_zero, List.set_cons_succ]
        refine held_quiet 23 (v := ?v23q20) rfl (by kernel_rfl) (fun _ _ _ h => h) (by assumption) rfl ?hy23q20 ?rest23q20
        case hy23q20 => (intro wS hSw; (try dsimp only at hSw); go_simp; try with_reducible rfl)
        try simp only [Act.put, List.setIfInBounds_toArray, List.set_cons_zero, List.set_cons_succ]
        refine held_quiet 24 (v := ?v24q21) rfl (by kernel_rfl) (fun _ _ _ h => h) (by assumption) rfl ?hy24q21 ?rest24q21
        case hy24q21 => (intro wS hSw; (try dsimp only at hSw); go_simp; try with_reducible rfl)
        try simp only [Act.put, List.setIfInBounds_toArray, List.set_cons_zero, List.set_cons_succ]
        refine held_quiet 26 (v := ?v26q22) rfl (by kernel_rfl) (fun _ _ _ h => h) (by assumption) rfl ?hy26q22 ?rest26q22
        case hy26q22 => (intro wS hSw; (try dsimp only at hSw); go_simp; try with_reducible rfl)
        try simp only [Act.put, List.setIfInBounds_toArray, List.set_cons_zero, List.set_cons_succ]
        refine held_quiet 27 (v := ?v27q23) rfl (by kernel_rfl) (fun _ _ _ h => h) (by assumption) rfl ?hy27q23 ?rest27q23
        case hy27q23 => (intro wS hSw; (try dsimp only at hSw); go_simp; try with_reducible rfl)
        try simp only [Act.put, List.setIfInBounds_toArray, List.set_cons_zero, List.set_cons_succ]
        refine held_quiet 28 (v := ?v28q24) rfl (by kernel_rfl) (fun _ _ _ h => h) (by assumption) rfl ?hy28q24 ?rest28q24
        case hy28q24 => (intro wS hSw; (try dsimp only at hSw); go_simp; try with_reducible rfl)
        try simp only [Act.put, List.setIfInBounds_toArray, List.set_cons_zero, List.set_cons_succ]
        refine held_quiet 29 (v := ?v29q25) rfl (by kernel_rfl) (fun _ _ _ h => h) (by assumption) rfl ?hy29q25 ?rest29q25
        case hy29q25 => (intro wS hSw; (try dsimp only at hSw); go_simp; try with_reducible rfl)
        try simp only [Act.put, List.setIfInBounds_toArray, List.set_cons_zero, List.set_cons_succ]
        refine held_quiet 30 (v := ?v30q26) rfl (by kernel_rfl) (fun _ _ _ h => h) (by assumption) rfl ?hy30q26 ?rest30q26
        case hy30q26 => (intro wS hSw; (try dsimp only at hSw); go_simp; try with_reducible rfl)
        try simp only [Act.put, List.setIfInBounds_toArray, List.set_cons_zero, List.set_cons_succ]
        refine held_quiet 31 (v := ?v31q27) rfl (by kernel_rfl) (fun _ _ _ h => h) (by assumption) rfl ?hy31q27 ?rest31q27
        case hy31q27 => (intro wS hSw; (try dsimp only at hSw); go_simp; try with_reducible rfl)
        try simp only [Act.put, List.setIfInBounds_toArray, List.set_cons_zero, List.set_cons_succ]
        refine held_one 25 rfl (by kernel_rfl) ?_
        go_wp2_with (go_at_call 14; refine HP3.out.mono ?_; rintro e w4 ⟨rfl, rfl⟩)
        try refine ⟨hS3, ?_⟩
        refine held_one 32 rfl (by kernel_rfl) ?_
        go_wp2_with (go_at_call 15; refine HR3.out.mono ?_; rintro e w5 ⟨rfl, rfl⟩)
        try refine ⟨hS3, ?_⟩
        refine held_quiet 33 (v := ?v33q28) rfl (by kernel_rfl) (fun _ _ _ h => h) (by assumption) rfl ?hy33q28 ?rest33q28
        case hy33q28 => (intro wS hSw; (try dsimp only at hSw); go_simp; try with_reducible rfl)
        try simp only [Act.put, List.setIfInBounds_toArray, List.set_cons_zero, List.set_cons_succ]
        refine held_quiet 34 (v := ?v34q29) rfl (by kernel_rfl) (fun _ _ _ h => h) (by assumption) rfl ?hy34q29 ?rest34q29
        case hy34q29 => (intro wS hSw; (try dsimp only at hSw); go_simp; try with_reducible rfl)
        try simp only [Act.put, List.setIfInBounds_toArray, List.set_cons_zero, List.set_cons_succ]
        refine held_done (by kernel_rfl) ?_
        go_wp2_with fail
        go_roundg (N - (j + 1))
        case measure => omega
        case rel => exact ⟨j + 1, l1, by omega, rfl, by go_num, HD3.out.mono (fun k hk hk2 => ⟨hk.elim (fun h => (HDI.out k h).1) (fun h => Nat.le_trans HB.out.size h), hk2⟩), HM1.out, HB3.out⟩
      · go_wp2
        try refine ⟨hS1, ?_⟩
        refine held_one 10 rfl (by kernel_rfl) ?_
        go_wp2_with (go_at_call 13; refine HKEYS.out.mono ?_; rintro e w2 ⟨⟨ka, kc, rfl, hkr⟩, hb2⟩)
        have hB2 : Below w.heap.size w w2 := HB1.out.trans (hb2.mono HB1.out.size)
        have HB2 : Hid (Below w.heap.size w w2) := hB2
        have hS2 := CS.out w2 hB2
        have HKR : Hid (RowI .i64 w2 ka m (fun j => (keys l1).getD j 0)) := hkr
        have HRR : Hid (RowI .i64 w2 ra m (fun j => (keys l1).getD j 0)) := HRR1.out.below hb2
        have HD2 : Hid (Duo w2 (Plus D W.heap.size) p rp room l1 l1) := HD1.out.below hb2
        try refine ⟨hS2, ?_⟩
        have hS : (fun X : World => X.cell? ⟨ab, ao + j * 2, none⟩ = some (.int .i64 kind) ∧ X.cell? ⟨ab, ao + j * 2 + 1, none⟩ = some (.int .i64 key)) w2 := hS2
        clear hkr hb2 hB2 rc1 HKEYS
        refine held_one 15 rfl (by kernel_rfl) ?_
        go_wp2_with (go_at_call 12; refine (same_rows ka ra m kc rc _ HML.out w2 HKR.out HRR.out).mono ?_; rintro e w3 ⟨rfl, hb3⟩)
        have hB3 : Below w.heap.size w w3 := HB2.out.trans (hb3.mono HB2.out.size)
        have HB3 : Hid (Below w.heap.size w w3) := hB3
        have HD3 : Hid (Duo w3 (Plus D W.heap.size) p rp room l1 l1) := HD2.out.below hb3
        have hS3 := CS.out w3 hB3
        try refine ⟨hS3, ?_⟩
        have hS : (fun X : World => X.cell? ⟨ab, ao + j * 2, none⟩ = some (.int .i64 kind) ∧ X.cell? ⟨ab, ao + j * 2 + 1, none⟩ = some (.int .i64 key)) w3 := hS3
        obtain ⟨⟨F3, hl3⟩, ⟨G3, hr3⟩⟩ := HD3.out.looks
        have HP3 : Hid (Calls Try.prog 14 #[.pointer (some ⟨p, 0, none⟩), .int .i64 key] w3 fun r w' => r = .returned (.int .i64 (q : Nat)) ∧ w' = w3) := by rw [HQ1.out]; exact Pinned_any hl3 HOK.out
        have HR3 : Hid (Calls Try.prog 15 #[.pointer (some ⟨rp, 0, none⟩), .int .i64 key] w3 fun r w' => r = .returned (.int .i64 (q : Nat)) ∧ w' = w3) := by rw [HQ1.out]; exact rPinned14_any hr3 HLN.out key
        clear hb3 hB3 hl3 hr3
        refine held_quiet 16 (v := ?v16q30) rfl (by kernel_rfl) (fun _ _ _ h => h) (by assumption) rfl ?hy16q30 ?rest16q30
        case hy16q30 => (intro wS hSw; (try dsimp only at hSw); go_simp; try with_reducible rfl)
        try simp only [Act.put, List.setIfInBounds_toArray, List.set_cons_zero, List.set_cons_succ]
        refine held_quiet 17 (v := ?v17q31) rfl (by kernel_rfl) (fun _ _ _ h => h) (by assumption) rfl ?hy17q31 ?rest17q31
        case hy17q31 => (intro wS hSw; (try dsimp only at hSw); go_simp; try with_reducible rfl)
        try simp only [Act.put, List.setIfInBounds_toArray, List.set_cons_zero, List.set_cons_succ]
        refine held_quiet 18 (v := ?v18q32) rfl (by kernel_rfl) (fun _ _ _ h => h) (by assumption) rfl ?hy18q32 ?rest18q32
        case hy18q32 => (intro wS hSw; (try dsimp only at hSw); go_simp; try with_reducible rfl)
        try simp only [Act.put, List.setIfInBounds_toArray, List.set_cons_zero, List.set_cons_succ]
        refine held_quiet 19 (v := ?v19q33) rfl (by kernel_rfl) (fun _ _ _ h => h) (by assumption) rfl ?hy19q33 ?rest19q33
        case hy19q33 => (intro wS hSw; (try dsimp only at hSw); go_simp; try with_reducible rfl)
        try simp only [Act.put, List.setIfInBounds_toArray, List.set_cons_zero, List.set_cons_succ]
        refine held_quiet 20 (v := ?v20q34) rfl (by kernel_rfl) (fun _ _ _ h => h) (by assumption) rfl ?hy20q34 ?rest20q34
        case hy20q34 => (intro wS hSw; (try dsimp only at hSw); go_simp; try with_reducible rfl)
        try simp only [Act.put, List.setIfInBounds_toArray, List.set_cons_zero, List.set_cons_succ]
        refine held_quiet 21 (v := ?v21q35) rfl (by kernel_rfl) (fun _ _ _ h => h) (by assumption) rfl ?hy21q35 ?rest21q35
        case hy21q35 => (intro wS hSw; (try dsimp only at hSw); go_simp; try with_reducible rfl)
        try simp only [Act.put, List.setIfInBounds_toArray, List.set_cons_zero, List.set_cons_succ]
        refine held_quiet 22 (v := ?v22q36) rfl (by kernel_rfl) (fun _ _ _ h => h) (by assumption) rfl ?hy22q36 ?rest22q36
        case hy22q36 => (intro wS hSw; (try dsimp only at hSw); go_simp; try with_reducible rfl)
        try simp only [Act.put, List.setIfInBounds_toArray, List.set_cons_zero, List.set_cons_succ]
        refine held_quiet 23 (v := ?v23q37) rfl (by kernel_rfl) (fun _ _ _ h => h) (by assumption) rfl ?hy23q37 ?rest23q37
        case hy23q37 => (intro wS hSw; (try dsimp only at hSw); go_simp; try with_reducible rfl)
        try simp only [Act.put, List.setIfInBounds_toArray, List.set_cons_zero, List.set_cons_succ]
        refine held_quiet 24 (v := ?v24q38) rfl (by kernel_rfl) (fun _ _ _ h => h) (by assumption) rfl ?hy24q38 ?rest24q38
        case hy24q38 => (intro wS hSw; (try dsimp only at hSw); go_simp; try with_reducible rfl)
        try simp only [Act.put, List.setIfInBounds_toArray, List.set_cons_zero, List.set_cons_succ]
        refine held_quiet 26 (v := ?v26q39) rfl (by kernel_rfl) (fun _ _ _ h => h) (by assumption) rfl ?hy26q39 ?rest26q39
        case hy26q39 => (intro wS hSw; (try dsimp only at hSw); go_simp; try with_reducible rfl)
        try simp only [Act.put, List.setIfInBounds_toArray, List.set_cons_zero, List.set_cons_succ]
        refine held_quiet 27 (v := ?v27q40) rfl (by kernel_rfl) (fun _ _ _ h => h) (by assumption) rfl ?hy27q40 ?rest27q40
        case hy27q40 => (intro wS hSw; (try dsimp only at hSw); go_simp; try with_reducible rfl)
        try simp only [Act.put, List.setIfInBounds_toArray, List.set_cons_zero, List.set_cons_succ]
        refine held_quiet 28 (v := ?v28q41) rfl (by kernel_rfl) (fun _ _ _ h => h) (by assumption) rfl ?hy28q41 ?rest28q41
        case hy28q41 => (intro wS hSw; (try dsimp only at hSw); go_simp; try with_reducible rfl)
        try simp only [Act.put, List.setIfInBounds_toArray, List.set_cons_zero, List.set_cons_succ]
        refine held_quiet 29 (v := ?v29q42) rfl (by kernel_rfl) (fun _ _ _ h => h) (by assumption) rfl ?hy29q42 ?rest29q42
        case hy29q42 => (intro wS hSw; (try dsimp only at hSw); go_simp; try with_reducible rfl)
        try simp only [Act.put, List.setIfInBounds_toArray, List.set_cons_zero, List.set_cons_succ]
        refine held_quiet 30 (v := ?v30q43) rfl (by kernel_rfl) (fun _ _ _ h => h) (by assumption) rfl ?hy30q43 ?rest30q43
        case hy30q43 => (intro wS hSw; (try dsimp only at hSw); go_simp; try with_reducible rfl)
        try simp only [Act.put, List.setIfInBounds_toArray, List.set_cons_zero, List.set_cons_succ]
        refine held_quiet 31 (v := ?v31q44) rfl (by kernel_rfl) (fun _ _ _ h => h) (by assumption) rfl ?hy31q44 ?rest31q44
        case hy31q44 => (intro wS hSw; (try dsimp only at hSw); go_simp; try with_reducible rfl)
        try simp only [Act.put, List.setIfInBounds_toArray, List.set_cons_zero, List.set_cons_succ]
        refine held_one 25 rfl (by kernel_rfl) ?_
        go_wp2_with (go_at_call 14; refine HP3.out.mono ?_; rintro e w4 ⟨rfl, rfl⟩)
        try refine ⟨hS3, ?_⟩
        refine held_one 32 rfl (by kernel_rfl) ?_
        go_wp2_with (go_at_call 15; refine HR3.out.mono ?_; rintro e w5 ⟨rfl, rfl⟩)
        try refine ⟨hS3, ?_⟩
        refine held_quiet 33 (v := ?v33q45) rfl (by kernel_rfl) (fun _ _ _ h => h) (by assumption) rfl ?hy33q45 ?rest33q45
        case hy33q45 => (intro wS hSw; (try dsimp only at hSw); go_simp; try with_reducible rfl)
        try simp only [Act.put, List.setIfInBounds_toArray, List.set_cons_zero, List.set_cons_succ]
        refine held_quiet 34 (v := ?v34q46) rfl (by kernel_rfl) (fun _ _ _ h => h) (by assumption) rfl ?hy34q46 ?rest34q46
        case hy34q46 => (intro wS hSw; (try dsimp only at hSw); go_simp; try with_reducible rfl)
        try simp only [Act.put, List.setIfInBounds_toArray, List.set_cons_zero, List.set_cons_succ]
        refine held_done (by kernel_rfl) ?_
        go_wp2_with fail
        go_roundg (N - (j + 1))
        case measure => omega
        case rel => exact ⟨j + 1, l1, by omega, rfl, by go_num, HD3.out.mono (fun k hk hk2 => ⟨hk.elim (fun h => (HDI.out k h).1) (fun h => Nat.le_trans HB.out.size h), hk2⟩), HM1.out, HB3.out⟩
    · have hx : ¬ (j : Int) < (N : Int) := by omega
      have HB : Hid (Below w.heap.size w W) := hb
      clear hD hM hb
      go_wp2
      go_ret
      exact ⟨rfl, HB.out⟩

theorem walk (w : World) (a0 : Int) (w0 : (Lit.int .i64 a0).wf = true) (a1 : Option Addr) (len1 cap1 : Nat) (f1 : Nat → Act14) (_m1 : len1 ≤ maxLen) (w1 : 0 < len1 → ∃ b off, a1 = some ⟨b, off, none⟩ ∧ ∀ j, j < len1 → ActAt14 w b (off + j * 2) (f1 j)) :
    Calls Try.prog 3 #[.int .i64 a0, .slice a1 len1 cap1] w fun e w' => e = .returned (.bool true) ∧ Below w.heap.size w w' := by
  by_cases hb : 300 < len1
  · exact walk_big a0 a1 len1 cap1 hb w
  · by_cases hr : 1 ≤ a0 ∧ a0 ≤ 64
    · obtain ⟨R, rfl⟩ : ∃ R : Nat, a0 = (R : Int) := ⟨a0.toNat, by omega⟩
      exact core R (by omega) (by omega) len1 cap1 (by omega) a1 f1 w w1
    · exact walk_none a0 a1 len1 cap1 (by omega) hr w

theorem own : ownKnob Try.prog.godebug = none := by kernel_rfl
theorem laidOut : laidOutB Try.prog = true := by kernel_rfl
set_option linter.unusedVariables false in
set_option maxRecDepth 100000 in
theorem lifted (os : Os) (started : os.Started) (H : Type) (enc : TypeId × Value → H) :
    ReturnsInHanded {} Try.checked os 3 .any (Rows.lruActsSpec.pre6 enc Try.prog Try.f3 Rows.lruActsRow.domain false) (Rows.lruActsSpec.post enc Try.prog Try.f3 false true false false) := by
  refine returnsInHanded_of_change (C := Try.checked) own started (by kernel_rfl) Try.func3
    (ChangeSpec.witness6 (enc := enc) (C := Try.checked) false ⟨#[], #[.int .i64 0, .slice none 0 0], []⟩ 8 (by kernel_rfl) (by kernel_rfl) (by kernel_rfl) (by kernel_rfl)) ?_
  intro W base args ds gs before hval0 hW hcnd _
  have hval : ∀ (j : Nat) t v, Try.f3.params[j]? = some t → args[j]? = some v → Value.okWide Try.prog W .any base t v := hval0
  have hW' := hW
  obtain ⟨p, q, hA0, hV, rfl, hfz, hnd⟩ := hW
  have hA : DataW.TrodAll enc Try.prog W 0 (fun _ => true) true Try.f3.params.toList args.toList ds p := hA0
  rw [Try.params3] at hA hval
  obtain ⟨v0, vs0, d0, ds0, p0, q0, hargs, rfl, rfl, h0, r0⟩ := trodAll_cons hA
  obtain ⟨v1, vs1, d1, ds1, p1, q1, rfl, rfl, rfl, h1, r1⟩ := trodAll_cons r0
  obtain ⟨rfl, rfl, rfl⟩ := trodAll_nil r1
  obtain rfl : args = #[v0, v1] := by cases args; simp_all
  obtain ⟨rfl, rfl⟩ := trodVars_none hV
  obtain ⟨a0, rfl, rfl, rfl, w0⟩ := open_int Try.underlying3 (hval 0 3 v0 rfl rfl) h0
  obtain ⟨a1, len1, cap1, rfl⟩ := okWide_slice Try.underlying22 (hval 1 22 v1 rfl rfl)
  have k1 := h1
  have lt1 : ∀ x ∈ p1, x.block < W.heap.size := by obtain ⟨m, hm⟩ := k1; exact DataW.trod_lt m _ _ _ hm
  obtain ⟨f1, m1, w1⟩ : ∃ f : Nat → Act14, len1 ≤ maxLen ∧ (0 < len1 → ∃ b off, a1 = some ⟨b, off, none⟩ ∧ ∀ j, j < len1 → ActAt14 W b (off + j * 2) (f j)) := by
    obtain ⟨fuel, hf⟩ := h1
    obtain ⟨x, l, c, f, hcs, hm, hA⟩ := open_acts14 hf
    simp [Value.cells] at hcs
    obtain ⟨rfl, rfl, rfl⟩ := hcs
    exact ⟨f, hm, hA⟩
  clear hA0 hval0
  simp only [List.append_nil] at hW'
  refine (walk W a0 w0 a1 len1 cap1 f1 m1 w1).mono fun e W' ⟨he, hg⟩ => ?_
  subst he
  exact ⟨_, rfl, _, _, _, [], _, [], hW', trodAll_mk1 (shut_bool Try.underlying4 _), (trodAll_cons_mk (shut_int Try.underlying3 w0) (trodAll_cons_mk (Below.trod laidOut (by kernel_rfl) (of_decide_eq_true (by kernel_rfl)) k1 hg lt1) trodAll_mk0)), rfl, hg.frame _, fun h => by cases h⟩
/-- For every input the law returns true, and each argument reads as it did. -/
theorem proved : Rows.LruActsSaid :=
  OpenClaim.holds_of_wide 3 Try.f3 rfl rfl rfl rfl rfl rfl rfl ⟨rfl, rfl, rfl, rfl, rfl⟩ rfl rfl rfl rfl rfl (by kernel_rfl) Try.func3 (by kernel_rfl)
    (of_decide_eq_true (by kernel_rfl)) (by unfold Func.isWrapper; first | (rw [if_pos (by decide +kernel)]; kernel_rfl) | (rw [if_neg (by decide +kernel)]; exact ⟨rfl, rfl⟩))
    (fun os started H enc _ => lifted os started H enc)
end Go.Proofs.Ytmmhfkohfijlaaa.lruActs
