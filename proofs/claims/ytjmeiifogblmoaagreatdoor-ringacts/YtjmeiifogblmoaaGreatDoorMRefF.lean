/- Several texts in one. The walk of the document's own head of a record. The walk of the document's own Encode of a record. -/
import Derived.Test.YtjmeiifogblmoaaGreatDoorRef12May
import Derived.Test.YtjmeiifogblmoaaGreatDoorMRefC
import Derived.Test.YtjmeiifogblmoaaGreatDoorMRefH
import Derived.Test.YtjmeiifogblmoaaGreatDoorKitRound
import Derived.Test.YtjmeiifogblmoaaGreatDoorKitTexts
import Derived.OwnWalk
namespace Go.Proofs.YtjmeiifogblmoaaGreatDoor
open Go.RowKit

/-- the two rows that head hands on: the record's numbers, and their widths -/
theorem rows12 (w : World) (a0 a1 a2 a3 : Nat) (P : Obj) (t u : TypeId) : RowI .u64 (((w.alloc P).alloc (.cells #[.int .u64 (a0 : Int), .int .u64 (a1 : Int), .int .u64 (a2 : Int), .int .u64 (a3 : Int)] t)).alloc (.cells #[.int .i64 8, .int .i64 2, .int .i64 1, .int .i64 4] u)) (some ⟨w.heap.size + 1, 0, none⟩) 4 (fun j => (([a0, a1, a2, a3].getD j 0 : Nat) : Int)) ∧
    RowI .i64 (((w.alloc P).alloc (.cells #[.int .u64 (a0 : Int), .int .u64 (a1 : Int), .int .u64 (a2 : Int), .int .u64 (a3 : Int)] t)).alloc (.cells #[.int .i64 8, .int .i64 2, .int .i64 1, .int .i64 4] u)) (some ⟨w.heap.size + 1 + 1, 0, none⟩) 4 (fun j => Rc.ws.getD j 0) := by
  have h1 := (RowI.newN .u64 (w.alloc P) [a0, a1, a2, a3] #[.int .u64 (a0 : Int), .int .u64 (a1 : Int), .int .u64 (a2 : Int), .int .u64 (a3 : Int)] t rfl).below ((Below.refl _ _).alloc (Nat.le_refl _) (.cells #[.int .i64 8, .int .i64 2, .int .i64 1, .int .i64 4] u))
  have h2 := RowI.new .i64 ((w.alloc P).alloc (.cells #[.int .u64 (a0 : Int), .int .u64 (a1 : Int), .int .u64 (a2 : Int), .int .u64 (a3 : Int)] t)) [8, 2, 1, 4] #[.int .i64 8, .int .i64 2, .int .i64 1, .int .i64 4] u rfl
  rw [World.size_alloc] at h1
  rw [World.size_alloc, World.size_alloc] at h2
  exact ⟨h1, h2⟩
theorem renc12 {seq rw_ n s : Nat} (h0 : seq < 18446744073709551616) (h1 : rw_ < 65536) (h2 : n < 256) (h3 : s < 4294967296) (a b : Option Addr) (ca cb : Nat) (w : World) (ha : RowI .u64 w a 4 (fun j => (([seq, rw_, n, s].getD j 0 : Nat) : Int))) (hb : RowI .i64 w b 4 (fun j => Rc.ws.getD j 0)) :
    Calls Tryz.prog 85 #[.slice a 4 ca, .slice b 4 cb] w fun e w' => e = .returned (.tuple #[.string (Rc.numsB seq rw_ n s), .int .i64 0]) ∧ Below w.heap.size w w' := by
  have h := refEncode_any [seq, rw_, n, s] Rc.ws (by show 4 ≤ maxLen; decide) (by show 4 ≤ maxLen; decide) (by
    intro j
    match j with
    | 0 => exact h0
    | 1 => show rw_ < _; omega
    | 2 => show n < _; omega
    | 3 => show s < _; omega
    | j + 4 => exact Nat.lt_of_le_of_lt (Nat.zero_le seq) h0) a b ca cb w ha hb
  have e := Rc.nums_E (row := (rw_ : Int)) h0 (by omega) h2 h3
  rw [show (rw_ : Int).toNat = rw_ by omega] at e
  rw [e] at h
  have e2 : Rc.numsB seq rw_ n s = Pk.encS [seq, rw_, n, s] Rc.ws := by unfold Rc.numsB; rw [show (rw_ : Int).toNat = rw_ by omega]
  rw [e2]
  exact h

set_option maxRecDepth 100000 in
set_option maxHeartbeats 4000000 in
theorem rhead12_some (seq rw_ b off n cap s : Nat) (f : Nat → Prt) (w : World) (h0 : seq < 18446744073709551616) (h3 : s < 4294967296) (hpl : Rc.placesB rw_ n f = true) (hp : ∀ j, j < n → PartAt w b (off + j * 3) (f j)) :
    Calls Tryz.prog 104 #[.agg #[.int .u64 (seq : Int), .int .i64 (rw_ : Int), .slice (some ⟨b, off, none⟩) n cap], .int .u32 (s : Int)] w fun e w' => e = .returned (.string (Rc.headS seq rw_ n f s)) ∧ Below w.heap.size w w' := by
  obtain ⟨hf, hok⟩ := (Rc.places_iff _ _ _).1 hpl
  obtain ⟨r0, r1, n1, n40⟩ := (Rc.few_iff _ _).1 hf
  have hr : rw_ < 65536 := by omega
  have hn : n < 256 := by omega
  have hE := fun (a' b' : Option Addr) (ca cb : Nat) (W : World) => renc12 h0 hr hn h3 a' b' ca cb W
  have hsz := Rc.body_size (seq := seq) (row := (rw_ : Int)) (n := n) (s := s) h0 (by omega) hn h3 f
  have hns := Rc.nums_size (seq := seq) (row := (rw_ : Int)) (n := n) (s := s) h0 (by omega) hn h3
  obtain ⟨q, hq⟩ : ∃ q, q = Rc.numsB seq rw_ n s := ⟨_, rfl⟩
  rw [← hq] at hE hns
  have HBd : Hid (Rc.bodyB seq rw_ n f s = Rc.magicB ++ q ++ Rc.plTo f n) := by show _ = _; unfold Rc.bodyB; rw [hq]
  have HSz : Hid ((Rc.bodyB seq rw_ n f s).size = 19 + n) := hsz
  have HP : Hid (∀ j, j < n → PartAt w b (off + j * 3) (f j)) := hp
  have HOk : Hid (Rc.okTo f n = true) := hok
  have HE : Hid _ := hE
  have H0 : Hid (seq < 18446744073709551616 ∧ s < 4294967296) := ⟨h0, h3⟩
  have hmx : Tryz.prog.follows .mixedOrders = true := by kernel_rfl
  have HMX : Hid (Tryz.prog.follows .mixedOrders = true) := hmx
  have hq16 : q.size ≤ 16 := by omega
  clear hpl hf hok hE hsz hq hp hns hmx r0 r1
  go_enter Tryz.func104, Tryz.ntmps104
  go_wp2_with fail
  refine (HE.out _ _ _ _ _ (rows12 w seq rw_ n s _ _ _).1 (rows12 w seq rw_ n s _ _ _).2).mono ?_
  rintro e w1 ⟨rfl, hb1⟩
  have hb : Below (w.alloc (.cells #[.int .u64 (seq : Int), .int .i64 (rw_ : Int), .slice (some ⟨b, off, none⟩) n cap] 74)).heap.size (w.alloc (.cells #[.int .u64 (seq : Int), .int .i64 (rw_ : Int), .slice (some ⟨b, off, none⟩) n cap] 74)) w1 :=
    ((((Below.refl _ _).alloc (Nat.le_refl _) _).alloc (by simp) _).trans (hb1.mono (by simp)))
  have c2 : w1.cell? ⟨w.heap.size, 2, none⟩ = some (.slice (some ⟨b, off, none⟩) n cap) := box_cell hb 2
  have HB1 : Hid (Below w.heap.size w w1) := box_below hb
  have HC2 : Hid (w1.cell? ⟨w.heap.size, 2, none⟩ = some (.slice (some ⟨b, off, none⟩) n cap)) := c2
  have hls : (({ data := #[82, 86, 84, 74] } : ByteArray) ++ q).size ≤ 20 := by rw [ByteArray.size_append]; show 4 + q.size ≤ 20; omega
  have hz : Rc.plTo f 0 = ⟨#[]⟩ := rfl
  clear hb1 hb
  go_wp2
  go_loopg [7, 8] n (fun gg x i wr => ∃ (k : Nat) (y : ByteArray), k ≤ n ∧ gg = n - k ∧ x = .string y ∧ y = Rc.magicB ++ q ++ Rc.plTo f k ∧ i = .int .i64 (k : Int) ∧ Below w1.heap.size w1 wr)
  case atStart => exact ⟨0, _, Nat.zero_le _, rfl, rfl, by rw [hz]; apply Pg.eq_of_list; simp [Rc.magicB], rfl, Below.refl _ _⟩
  case round =>
  obtain ⟨k, y, hk, rfl, rfl, hy, rfl, hbz⟩ := hrel
  have HB : Hid (Below w1.heap.size w1 wr) := hbz
  have HY : Hid (y = Rc.magicB ++ q ++ Rc.plTo f k) := hy
  have hys : y.size ≤ 60 := by
    rw [hy, ByteArray.size_append, ByteArray.size_append, Rc.plTo_size]
    show 4 + q.size + k ≤ 60
    omega
  have hl0 := World.block_lt_of_cell? w1 _ HC2.out
  have d2 := (hbz.cell (p := ⟨w.heap.size, 2, none⟩) hl0).trans HC2.out
  have HBW : Hid (Below w.heap.size w wr) := HB1.out.trans (hbz.mono HB1.out.size)
  clear hbz hy hl0 c2 hls hz
  by_cases hlt : k < n
  case neg =>
    have hkn : k = n := by omega
    subst hkn
    have HSl : Hid (Rc.headS seq rw_ k f s = Crc.sealB y 64) := by show _ = _; unfold Rc.headS; rw [HBd.out, HY.out]
    clear hlt hk
    go_wp2_with fail
    refine (refSeal_yes y 64 (by decide) (by decide) hys _).mono ?_
    rw [← HSl.out]
    rintro e w2 ⟨rfl, b2⟩
    have HB2 : Hid (Below w.heap.size w w2) := HBW.out.trans (b2.mono HBW.out.size)
    clear b2
    go_wp2
    go_ret
    exact ⟨rfl, HB2.out⟩
  case pos =>
  have hki : (k : Int) < (n : Int) := by omega
  have hpk := (HP.out k hlt).below HBW.out (HP.out k hlt).lt
  have c0 := hpk.c0
  have c1 := hpk.c1
  have hin := (Rc.in_iff _).1 ((Rc.okTo_iff f n).1 HOk.out k hlt).1
  have hpl : Rc.plTo f (k + 1) = Rc.plTo f k ++ ⟨#[Rc.plB (f k)]⟩ := rfl
  obtain ⟨x, hx⟩ : ∃ x, x = f k := ⟨_, rfl⟩
  rw [← hx] at c0 c1 hin hpl
  obtain ⟨xc, xo, xd⟩ := x
  dsimp only at c0 c1 hin
  obtain ⟨pv, hpv⟩ : ∃ pv : Nat, (pv : Int) = 4 * xc + xo := ⟨(4 * xc + xo).toNat, by omega⟩
  have hpb : Rc.plB ⟨xc, xo, xd⟩ = UInt8.ofNat pv := by unfold Rc.plB; dsimp only; congr 1; omega
  obtain ⟨c, hc⟩ : ∃ c, c = UInt8.ofNat pv := ⟨_, rfl⟩
  have hp40 : pv < 40 := by omega
  have hcn : c.toNat = pv := by rw [hc]; simp; omega
  rw [hpb, ← hc] at hpl
  have HPl : Hid (Rc.plTo f (k + 1) = Rc.plTo f k ++ ⟨#[c]⟩) := hpl
  obtain ⟨m4, hm4⟩ : ∃ m4 : Nat, (m4 : Int) = 4 * xc := ⟨(4 * xc).toNat, by omega⟩
  have hw1 : IntKind.i64.wrap (4 * xc) = (m4 : Int) := by rw [IntKind.wrap_i64]; omega
  have g4 : (m4 : Int) + xo = (pv : Int) := by omega
  have hw2 : IntKind.i64.wrap (pv : Int) = (pv : Int) := by rw [IntKind.wrap_i64]; omega
  have hw3 : IntKind.u8.wrap (pv : Int) = (pv : Int) := by rw [IntKind.wrap_u8]; omega
  have hcv : ∀ W : World, (convert 44 9 (.slice (some ⟨W.heap.size, 0, none⟩) 1 1)).run Tryz.prog (W.alloc (.cells #[.int .u8 (pv : Int)] 5)) = .ok (.string ⟨#[c]⟩) (W.alloc (.cells #[.int .u8 (pv : Int)] 5)) := by
    intro W
    refine run_convert_bytes_back _ _ _ 5 _ 1 [c] Tryz.underlying44 Tryz.underlying5 Tryz.underlying9 fun j hj => ?_
    have : j = 0 := by simpa using hj
    subst this
    have hadd : (⟨W.heap.size, 0, none⟩ : Addr).add 0 = ⟨W.heap.size, 0, none⟩ := by unfold Addr.add; split <;> simp_all
    rw [hadd, World.cell?_alloc_mark]
    simp [hcn]
  have hcv2 : ∀ W : World, (convert 44 9 (.slice (some ⟨W.heap.size, 0, none⟩) 1 1)).run Tryz.prog (W.alloc (.cells #[.int .u8 (pv : Int)] 5)).drew = .ok (.string ⟨#[c]⟩) (W.alloc (.cells #[.int .u8 (pv : Int)] 5)).drew := by
    intro W
    refine run_convert_bytes_back _ _ _ 5 _ 1 [c] Tryz.underlying44 Tryz.underlying5 Tryz.underlying9 fun j hj => ?_
    have : j = 0 := by simpa using hj
    subst this
    have hadd : (⟨W.heap.size, 0, none⟩ : Addr).add 0 = ⟨W.heap.size, 0, none⟩ := by unfold Addr.add; split <;> simp_all
    rw [hadd]
    show (W.alloc _).cell? _ = _
    rw [World.cell?_alloc_mark]
    simp [hcn]
  have hcs : (⟨#[c]⟩ : ByteArray).size = 1 := rfl
  have hlim : ¬ 9223372036854775807 < y.size + 1 := by omega
  have hc2s : (y ++ (⟨#[c]⟩ : ByteArray)).size ≤ 61 := by rw [ByteArray.size_append, hcs]; omega
  clear hpk hx hpb hc hcn hpl hpv hm4 hin
  go_wp2_with fail
  refine wp_region_held (S := fun W => W.cell? ⟨w.heap.size, 2, none⟩ = some (.slice (some ⟨b, off, none⟩) n cap) ∧ W.cell? ⟨b, off + k * 3, none⟩ = some (.int .i64 xc) ∧ W.cell? ⟨b, off + k * 3 + 1, none⟩ = some (.int .i64 xo)) HMX.out ?_
  have hS : (fun W : World => W.cell? ⟨w.heap.size, 2, none⟩ = some (.slice (some ⟨b, off, none⟩) n cap) ∧ W.cell? ⟨b, off + k * 3, none⟩ = some (.int .i64 xc) ∧ W.cell? ⟨b, off + k * 3 + 1, none⟩ = some (.int .i64 xo)) wr.drew := ⟨d2, c0, c1⟩
  change wpAnyH _ _ _ _ _ _ _ _ wr.drew
  refine held_quiet 0 (v := ?v0q1) rfl (by kernel_rfl) (fun _ _ _ h => h) (by assumption) rfl ?hy0q1 ?rest0q1
  case hy0q1 => (intro wS hSw; (try dsimp only at hSw); go_simp; try with_reducible rfl)
  try simp only [Act.put, List.setIfInBounds_toArray, List.set_cons_zero, List.set_cons_succ]
  refine held_quiet 1 (v := ?v1q2) rfl (by kernel_rfl) (fun _ _ _ h => h) (by assumption) rfl ?hy1q2 ?rest1q2
  case hy1q2 => (intro wS hSw; (try dsimp only at hSw); go_simp; try with_reducible rfl)
  try simp only [Act.put, List.setIfInBounds_toArray, List.set_cons_zero, List.set_cons_succ]
  refine held_quiet 2 (v := ?v2q3) rfl (by kernel_rfl) (fun _ _ _ h => h) (by assumption) rfl ?hy2q3 ?rest2q3
  case hy2q3 => (intro wS hSw; (try dsimp only at hSw); go_simp; try with_reducible rfl)
  try simp only [Act.put, List.setIfInBounds_toArray, List.set_cons_zero, List.set_cons_succ]
  refine held_quiet 3 (v := ?v3q4) rfl (by kernel_rfl) (fun _ _ _ h => h) (by assumption) rfl ?hy3q4 ?rest3q4
  case hy3q4 => (intro wS hSw; (try dsimp only at hSw); go_simp; try with_reducible rfl)
  try simp only [Act.put, List.setIfInBounds_toArray, List.set_cons_zero, List.set_cons_succ]
  refine held_quiet 4 (v := ?v4q5) rfl (by kernel_rfl) (fun _ _ _ h => h) (by assumption) rfl ?hy4q5 ?rest4q5
  case hy4q5 => (intro wS hSw; (try dsimp only at hSw); go_simp; try with_reducible rfl)
  try simp only [Act.put, List.setIfInBounds_toArray, List.set_cons_zero, List.set_cons_succ]
  refine held_quiet 5 (v := ?v5q6) rfl (by kernel_rfl) (fun _ _ _ h => h) (by assumption) rfl ?hy5q6 ?rest5q6
  case hy5q6 => (intro wS hSw; (try dsimp only at hSw); go_simp; try with_reducible rfl)
  try simp only [Act.put, List.setIfInBounds_toArray, List.set_cons_zero, List.set_cons_succ]
  refine held_quiet 6 (v := ?v6q7) rfl (by kernel_rfl) (fun _ _ _ h => h) (by assumption) rfl ?hy6q7 ?rest6q7
  case hy6q7 => (intro wS hSw; (try dsimp only at hSw); go_simp; try with_reducible rfl)
  try simp only [Act.put, List.setIfInBounds_toArray, List.set_cons_zero, List.set_cons_succ]
  refine held_quiet 7 (v := ?v7q8) rfl (by kernel_rfl) (fun _ _ _ h => h) (by assumption) rfl ?hy7q8 ?rest7q8
  case hy7q8 => (intro wS hSw; (try dsimp only at hSw); go_simp; try with_reducible rfl)
  try simp only [Act.put, List.setIfInBounds_toArray, List.set_cons_zero, List.set_cons_succ]
  refine held_quiet 8 (v := ?v8q9) rfl (by kernel_rfl) (fun _ _ _ h => h) (by assumption) rfl ?hy8q9 ?rest8q9
  case hy8q9 => (intro wS hSw; (try dsimp only at hSw); go_simp; try with_reducible rfl)
  try simp only [Act.put, List.setIfInBounds_toArray, List.set_cons_zero, List.set_cons_succ]
  refine held_quiet 9 (v := ?v9q10) rfl (by kernel_rfl) (fun _ _ _ h => h) (by assumption) rfl ?hy9q10 ?rest9q10
  case hy9q10 => (intro wS hSw; (try dsimp only at hSw); go_simp; try with_reducible rfl)
  try simp only [Act.put, List.setIfInBounds_toArray, List.set_cons_zero, List.set_cons_succ]
  refine held_quiet 10 (v := ?v10q11) rfl (by kernel_rfl) (fun _ _ _ h => h) (by assumption) rfl ?hy10q11 ?rest10q11
  case hy10q11 => (intro wS hSw; (try dsimp only at hSw); go_simp; try with_reducible rfl)
  try simp only [Act.put, List.setIfInBounds_toArray, List.set_cons_zero, List.set_cons_succ]
  refine held_quiet 11 (v := ?v11q12) rfl (by kernel_rfl) (fun _ _ _ h => h) (by assumption) rfl ?hy11q12 ?rest11q12
  case hy11q12 => (intro wS hSw; (try dsimp only at hSw); go_simp; try with_reducible rfl)
  try simp only [Act.put, List.setIfInBounds_toArray, List.set_cons_zero, List.set_cons_succ]
  refine held_quiet 12 (v := ?v12q13) rfl (by kernel_rfl) (fun _ _ _ h => h) (by assumption) rfl ?hy12q13 ?rest12q13
  case hy12q13 => (intro wS hSw; (try dsimp only at hSw); go_simp; try with_reducible rfl)
  try simp only [Act.put, List.setIfInBounds_toArray, List.set_cons_zero, List.set_cons_succ]
  refine held_quiet 13 (v := ?v13q14) rfl (by kernel_rfl) (fun _ _ _ h => h) (by assumption) rfl ?hy13q14 ?rest13q14
  case hy13q14 => (intro wS hSw; (try dsimp only at hSw); go_simp; try with_reducible rfl)
  try simp only [Act.put, List.setIfInBounds_toArray, List.set_cons_zero, List.set_cons_succ]
  refine held_quiet 14 (v := ?v14q15) rfl (by kernel_rfl) (fun _ _ _ h => h) (by assumption) rfl ?hy14q15 ?rest14q15
  case hy14q15 => (intro wS hSw; (try dsimp only at hSw); go_simp; try with_reducible rfl)
  try simp only [Act.put, List.setIfInBounds_toArray, List.set_cons_zero, List.set_cons_succ]
  refine held_quiet 15 (v := ?v15q16) rfl (by kernel_rfl) (fun _ _ _ h => h) (by assumption) rfl ?hy15q16 ?rest15q16
  case hy15q16 => (intro wS hSw; (try dsimp only at hSw); go_simp; try with_reducible rfl)
  try simp only [Act.put, List.setIfInBounds_toArray, List.set_cons_zero, List.set_cons_succ]
  refine held_one 16 rfl (by kernel_rfl) ?_
  go_wp2
  have hS1 : (fun W : World => W.cell? ⟨w.heap.size, 2, none⟩ = some (.slice (some ⟨b, off, none⟩) n cap) ∧ W.cell? ⟨b, off + k * 3, none⟩ = some (.int .i64 xc) ∧ W.cell? ⟨b, off + k * 3 + 1, none⟩ = some (.int .i64 xo)) (wr.drew.alloc (.cells #[.int .u8 (pv : Int)] 5)) := by
    have ha : Below wr.drew.heap.size wr.drew (wr.drew.alloc (.cells #[.int .u8 (pv : Int)] 5)) := (Below.refl _ _).alloc (Nat.le_refl _) _
    exact ⟨(ha.cell (p := ⟨w.heap.size, 2, none⟩) (World.block_lt_of_cell? wr _ d2)).trans d2, (ha.cell (p := ⟨b, off + k * 3, none⟩) (World.block_lt_of_cell? wr _ c0)).trans c0, (ha.cell (p := ⟨b, off + k * 3 + 1, none⟩) (World.block_lt_of_cell? wr _ c1)).trans c1⟩
  try refine ⟨hS1, ?_⟩
  refine held_one 17 rfl (by kernel_rfl) ?_
  go_wp2
  try refine ⟨hS1, ?_⟩
  refine held_quiet 18 (v := ?v18q17) rfl (by kernel_rfl) (fun _ _ _ h => h) (by assumption) rfl ?hy18q17 ?rest18q17
  case hy18q17 => (intro wS hSw; (try dsimp only at hSw); go_simp; try with_reducible rfl)
  try simp only [Act.put, List.setIfInBounds_toArray, List.set_cons_zero, List.set_cons_succ]
  refine held_quiet 19 (v := ?v19q18) rfl (by kernel_rfl) (fun _ _ _ h => h) (by assumption) rfl ?hy19q18 ?rest19q18
  case hy19q18 => (intro wS hSw; (try dsimp only at hSw); go_simp; try with_reducible rfl)
  try simp only [Act.put, List.setIfInBounds_toArray, List.set_cons_zero, List.set_cons_succ]
  refine held_done (by kernel_rfl) ?_
  go_wp2
  go_roundg (n - (k + 1))
  case measure => omega
  case rel => exact ⟨k + 1, _, by omega, rfl, rfl, by rw [HPl.out, HY.out]; apply Pg.eq_of_list; simp, by go_num, ((HB.out.drew).alloc HB.out.size _)⟩

/-- the document's own head of any record whose places may be -/
theorem rhead12_any (seq rw_ n cap s : Nat) (a : Option Addr) (f : Nat → Prt) (w : World) (h0 : seq < 18446744073709551616) (h3 : s < 4294967296) (hpl : Rc.placesB rw_ n f = true) (hp : PartsR w a n f) :
    Calls Tryz.prog 104 #[.agg #[.int .u64 (seq : Int), .int .i64 (rw_ : Int), .slice a n cap], .int .u32 (s : Int)] w fun e w' => e = .returned (.string (Rc.headS seq rw_ n f s)) ∧ Below w.heap.size w w' := by
  obtain ⟨b, off, rfl, hp2⟩ := hp.head (by have := (Rc.few_iff _ _).1 ((Rc.places_iff _ _ _).1 hpl).1; omega)
  exact rhead12_some seq rw_ b off n cap s f w h0 h3 hpl hp2
end Go.Proofs.YtjmeiifogblmoaaGreatDoor

namespace Go.Proofs.YtjmeiifogblmoaaGreatDoor
open Go.RowKit

namespace Rc
def encE (row : Int) (n : Nat) (f : Nat → Prt) : Nat := if mayB row n f = true then 0 else 1
def encN (row : Int) (n : Nat) (f : Nat → Prt) : Nat := if mayB row n f = true then n else 0
def encT (seq : Nat) (row : Int) (n : Nat) (f : Nat → Prt) : ByteArray := if mayB row n f = true then headS seq row n f (sumF n f) else ⟨#[]⟩
theorem may_iff (row : Int) (n : Nat) (f : Nat → Prt) : mayB row n f = true ↔ fullTo f n = true ∧ placesB row n f = true := by unfold mayB; rw [Bool.and_eq_true]
theorem catTo_size {f : Nat → Prt} : ∀ {n : Nat}, fullTo f n = true → (catTo f n).size = 64 * n
  | 0, _ => rfl
  | n + 1, h => by
    unfold fullTo at h
    rw [Bool.and_eq_true, decide_eq_true_iff] at h
    unfold catTo
    rw [ByteArray.size_append, catTo_size h.1, h.2]; omega
theorem sumF_lt (n : Nat) (f : Nat → Prt) : sumF n f < 4294967296 := Crc.more_lt _ _
end Rc
/-- what Encode answers -/
def EncAns (w : World) (seq : Nat) (row : Int) (n : Nat) (f : Nat → Prt) (e : Ending) (w' : World) : Prop :=
  ∃ a cap, e = .returned (.tuple #[.string (Rc.encT seq row n f), .slice a (Rc.encN row n f) cap, .int .i64 (Rc.encE row n f : Nat)]) ∧ RowS w' a (Rc.encN row n f) (fun j => (f j).data) ∧ Below w.heap.size w w'
/-- and its row is a new one -/
def EncNew12 (w : World) (seq : Nat) (row : Int) (n : Nat) (f : Nat → Prt) (e : Ending) (w' : World) : Prop :=
  ∃ a cap, e = .returned (.tuple #[.string (Rc.encT seq row n f), .slice a (Rc.encN row n f) cap, .int .i64 (Rc.encE row n f : Nat)]) ∧ RowS w' a (Rc.encN row n f) (fun j => (f j).data) ∧ (∀ x, a = some x → w.heap.size ≤ x.block) ∧ Below w.heap.size w w'

set_option maxRecDepth 100000 in
set_option maxHeartbeats 2000000 in
theorem rEncode12_no (seq : Nat) (row : Int) (a : Option Addr) (n cap : Nat) (f : Nat → Prt) (w : World) (hin : RecIn row n f) (hp : PartsR w a n f) (h : Rc.mayB row n f = false) :
    Calls Tryz.prog 67 #[.agg #[.int .u64 (seq : Int), .int .i64 row, .slice a n cap]] w (EncNew12 w seq row n f) := by
  have hM := rMay12_any (seq : Int) row a n cap f (w.alloc (.cells #[.int .u64 (seq : Int), .int .i64 row, .slice a n cap] 74)) hin (hp.below ((Below.refl _ w).alloc (Nat.le_refl _) _))
  rw [h] at hM
  have HN : Hid (Rc.mayB row n f = false) := h
  clear h hp hin
  go_enter Tryz.func67, Tryz.ntmps67
  go_wp2_with fail
  refine hM.mono ?_
  rintro e w1 ⟨rfl, b1⟩
  have HB : Hid (Below w.heap.size w w1) := box_below b1
  clear b1 hM
  go_wp2
  go_ret3
  refine ⟨none, 0, ?_, ?_, (fun x hx => by cases hx), HB.out⟩
  · unfold Rc.encT Rc.encN Rc.encE; rw [HN.out]; rfl
  · unfold Rc.encN; rw [HN.out]; exact RowS.nil _ _ _

set_option maxRecDepth 100000 in
set_option maxHeartbeats 4000000 in
theorem rEncode12_yes (seq rw_ b off n cap : Nat) (f : Nat → Prt) (w : World) (h0 : seq < 18446744073709551616) (hin : RecIn rw_ n f) (hp : ∀ j, j < n → PartAt w b (off + j * 3) (f j)) (h : Rc.mayB rw_ n f = true) :
    Calls Tryz.prog 67 #[.agg #[.int .u64 (seq : Int), .int .i64 (rw_ : Int), .slice (some ⟨b, off, none⟩) n cap]] w (EncNew12 w seq rw_ n f) := by
  obtain ⟨hfu, hpl⟩ := (Rc.may_iff _ _ _).1 h
  obtain ⟨_, _, n1, n40⟩ := (Rc.few_iff _ _).1 ((Rc.places_iff _ _ _).1 hpl).1
  have hpr : PartsR w (some ⟨b, off, none⟩) n f := fun j hj => ⟨b, off, rfl, hp j hj⟩
  have hM := rMay12_any (seq : Int) rw_ (some ⟨b, off, none⟩) n cap f (w.alloc (.cells #[.int .u64 (seq : Int), .int .i64 (rw_ : Int), .slice (some ⟨b, off, none⟩) n cap] 74)) hin (hpr.below ((Below.refl _ w).alloc (Nat.le_refl _) _))
  rw [h] at hM
  have hH := fun (W : World) (hW : Below w.heap.size w W) => rhead12_any seq rw_ n cap (Rc.sumF n f) (some ⟨b, off, none⟩) f W h0 (Rc.sumF_lt n f) hpl (hpr.below hW)
  have HH : Hid _ := hH
  have HP : Hid (∀ j, j < n → PartAt w b (off + j * 3) (f j)) := hp
  have HFu : Hid (Rc.fullTo f n = true) := hfu
  have HY : Hid (Rc.mayB rw_ n f = true) := h
  have hmx : Tryz.prog.follows .mixedOrders = true := by kernel_rfl
  have HMX : Hid (Tryz.prog.follows .mixedOrders = true) := hmx
  obtain ⟨i0, hi, hz0, hz1, hz2⟩ := info_parts info_str
  clear hfu hpl hpr hp hin h hH hmx
  go_enter Tryz.func67, Tryz.ntmps67
  go_wp2_with fail
  refine hM.mono ?_
  rintro e w1 ⟨rfl, b1⟩
  have k0 : w1.cell? ⟨w.heap.size, 0, none⟩ = some (.int .u64 (seq : Int)) := box_cell b1 0
  have k1 : w1.cell? ⟨w.heap.size, 1, none⟩ = some (.int .i64 (rw_ : Int)) := box_cell b1 1
  have k2 : w1.cell? ⟨w.heap.size, 2, none⟩ = some (.slice (some ⟨b, off, none⟩) n cap) := box_cell b1 2
  have HK : Hid (w1.cell? ⟨w.heap.size, 0, none⟩ = some (.int .u64 (seq : Int)) ∧ w1.cell? ⟨w.heap.size, 1, none⟩ = some (.int .i64 (rw_ : Int)) ∧ w1.cell? ⟨w.heap.size, 2, none⟩ = some (.slice (some ⟨b, off, none⟩) n cap)) := ⟨k0, k1, k2⟩
  have HB1 : Hid (Below w.heap.size w w1) := box_below b1
  clear b1 hM k0 k1
  go_wp2
  go_loopg [5, 6, 7] n (fun gg x v i wr => ∃ (k : Nat) (y : ByteArray) (u : Value), k ≤ n ∧ gg = n - k ∧ x = .string y ∧ y = Rc.catTo f k ∧ u = v ∧ i = .int .i64 (k : Int) ∧ wr.ownsRow w1.heap.size 9 1 u k (textVals k fun j => (f j).data) ∧ Below w1.heap.size w1 wr)
  case atStart =>
    refine ⟨0, _, _, Nat.zero_le _, rfl, rfl, rfl, rfl, rfl, ?_, (Below.refl _ w1).alloc (Nat.le_refl _) _⟩
    exact World.ownsRow_lit (base := w1.heap.size) (e := 9) (size := 1) w1 #[] 0 (Nat.le_refl _) (by decide) rfl
  case round =>
  obtain ⟨k, y, u, hk, rfl, rfl, hy, rfl, rfl, hown, hb⟩ := hrel
  have HB : Hid (Below w1.heap.size w1 wr) := hb
  have OWN : Hid (wr.ownsRow w1.heap.size 9 1 u k (textVals k fun j => (f j).data)) := hown
  have HYc : Hid (y = Rc.catTo f k) := hy
  have hys : y.size ≤ 2560 := by
    rw [hy, Rc.catTo_size ((Rc.fullTo_iff f k).2 fun i hi => (Rc.fullTo_iff f n).1 HFu.out i (by omega))]; omega
  have hl0 := World.block_lt_of_cell? w1 _ HK.out.1
  have d0 := (hb.cell (p := ⟨w.heap.size, 0, none⟩) hl0).trans HK.out.1
  have d1 := (hb.cell (p := ⟨w.heap.size, 1, none⟩) hl0).trans HK.out.2.1
  have d2 := (hb.cell (p := ⟨w.heap.size, 2, none⟩) hl0).trans HK.out.2.2
  have HBW : Hid (Below w.heap.size w wr) := HB1.out.trans (hb.mono HB1.out.size)
  have hsz := hb.size
  clear hb hown hy hl0 k2
  by_cases hlt : k < n
  case neg =>
    have hkn : k = n := by omega
    subst hkn
    have hh := HH.out
    obtain ⟨a', cap', rfl, hrs, hcap, hnw⟩ := RowS.of_owns OWN.out
    have HNw : Hid (∀ x, a' = some x → w.heap.size ≤ x.block) := fun x hx => Nat.le_trans HB1.out.size (hnw x hx)
    clear hnw
    have HRS : Hid (RowS wr a' k fun j => (f j).data) := hrs
    have hsm : Crc.more 0 y.data.toList = Rc.sumF k f := by rw [HYc.out]; rfl
    obtain ⟨sm, hsme⟩ : ∃ sm, sm = Rc.sumF k f := ⟨_, rfl⟩
    obtain ⟨hd, hhd⟩ : ∃ hd, hd = Rc.headS seq rw_ k f sm := ⟨_, rfl⟩
    rw [← hsme, ← hhd] at hh
    rw [← hsme] at hsm
    have HHd : Hid (Rc.encT seq rw_ k f = hd ∧ Rc.encN rw_ k f = k ∧ Rc.encE rw_ k f = 0) := by
      refine ⟨?_, ?_, ?_⟩
      · unfold Rc.encT; rw [if_pos HY.out, hhd, hsme]
      · unfold Rc.encN; rw [if_pos HY.out]
      · unfold Rc.encE; rw [if_pos HY.out]
    have HHh : Hid _ := hh
    clear hlt hk hrs hcap hsme hhd hh
    go_wp2_with fail
    refine wp_region_held (S := fun W => W.cell? ⟨w.heap.size, 0, none⟩ = some (.int .u64 (seq : Int)) ∧ W.cell? ⟨w.heap.size, 1, none⟩ = some (.int .i64 (rw_ : Int)) ∧ W.cell? ⟨w.heap.size, 2, none⟩ = some (.slice (some ⟨b, off, none⟩) k cap)) HMX.out ?_
    have hS : (fun W : World => W.cell? ⟨w.heap.size, 0, none⟩ = some (.int .u64 (seq : Int)) ∧ W.cell? ⟨w.heap.size, 1, none⟩ = some (.int .i64 (rw_ : Int)) ∧ W.cell? ⟨w.heap.size, 2, none⟩ = some (.slice (some ⟨b, off, none⟩) k cap)) wr.drew := ⟨d0, d1, d2⟩
    change wpAnyH _ _ _ _ _ _ _ _ wr.drew
    refine held_quiet 0 (v := ?v0q1) rfl (by kernel_rfl) (fun _ _ _ h => h) (by assumption) rfl ?hy0q1 ?rest0q1
    case hy0q1 => (intro wS hSw; (try dsimp only at hSw); go_simp; try with_reducible rfl)
    try simp only [Act.put, List.setIfInBounds_toArray, List.set_cons_zero, List.set_cons_succ]
    refine held_quiet 1 (v := ?v1q2) rfl (by kernel_rfl) (fun _ _ _ h => h) (by assumption) rfl ?hy1q2 ?rest1q2
    case hy1q2 => (intro wS hSw; (try dsimp only at hSw); go_simp; try with_reducible rfl)
    try simp only [Act.put, List.setIfInBounds_toArray, List.set_cons_zero, List.set_cons_succ]
    refine held_quiet 4 (v := ?v4q3) rfl (by kernel_rfl) (fun _ _ _ h => h) (by assumption) rfl ?hy4q3 ?rest4q3
    case hy4q3 => (intro wS hSw; (try dsimp only at hSw); go_simp; try with_reducible rfl)
    try simp only [Act.put, List.setIfInBounds_toArray, List.set_cons_zero, List.set_cons_succ]
    refine held_one 2 rfl (by kernel_rfl) ?_
    go_wp2_with (go_at_call 96; refine (refSum_any y (by unfold maxLen; omega) _).mono ?_; rintro e w2 ⟨rfl, rfl⟩)
    try rw [hsm]
    try refine ⟨hS, ?_⟩
    refine held_one 3 rfl (by kernel_rfl) ?_
    go_wp2_with (go_at_call 104; refine (HHh.out _ HBW.out.drew).mono ?_; rintro e w3 ⟨rfl, b3⟩)
    have hS3 : (fun W : World => W.cell? ⟨w.heap.size, 0, none⟩ = some (.int .u64 (seq : Int)) ∧ W.cell? ⟨w.heap.size, 1, none⟩ = some (.int .i64 (rw_ : Int)) ∧ W.cell? ⟨w.heap.size, 2, none⟩ = some (.slice (some ⟨b, off, none⟩) k cap)) w3 := by
      have hl0 := World.block_lt_of_cell? wr _ d0
      exact ⟨(b3.cell (p := ⟨w.heap.size, 0, none⟩) hl0).trans d0, (b3.cell (p := ⟨w.heap.size, 1, none⟩) hl0).trans d1, (b3.cell (p := ⟨w.heap.size, 2, none⟩) hl0).trans d2⟩
    try refine ⟨hS3, ?_⟩
    have HB3 : Hid (Below w.heap.size w w3) := HBW.out.trans ((Below.refl w.heap.size wr).drew.trans (b3.mono HBW.out.size))
    have HR3 : Hid (RowS w3 a' k fun j => (f j).data) := RowS.below (RowS.drew HRS.out) b3
    clear b3
    refine held_quiet 5 (v := ?v5q4) rfl (by kernel_rfl) (fun _ _ _ h => h) (by assumption) rfl ?hy5q4 ?rest5q4
    case hy5q4 => (intro wS hSw; (try dsimp only at hSw); go_simp; try with_reducible rfl)
    try simp only [Act.put, List.setIfInBounds_toArray, List.set_cons_zero, List.set_cons_succ]
    refine held_quiet 6 (v := ?v6q5) rfl (by kernel_rfl) (fun _ _ _ h => h) (by assumption) rfl ?hy6q5 ?rest6q5
    case hy6q5 => (intro wS hSw; (try dsimp only at hSw); go_simp; try with_reducible rfl)
    try simp only [Act.put, List.setIfInBounds_toArray, List.set_cons_zero, List.set_cons_succ]
    refine held_quiet 7 (v := ?v7q6) rfl (by kernel_rfl) (fun _ _ _ h => h) (by assumption) rfl ?hy7q6 ?rest7q6
    case hy7q6 => (intro wS hSw; (try dsimp only at hSw); go_simp; try with_reducible rfl)
    try simp only [Act.put, List.setIfInBounds_toArray, List.set_cons_zero, List.set_cons_succ]
    refine held_done (by kernel_rfl) ?_
    go_wp2
    go_ret3
    refine ⟨a', cap', ?_, ?_, HNw.out, HB3.out⟩
    · rw [HHd.out.1, HHd.out.2.1, HHd.out.2.2]; rfl
    · rw [HHd.out.2.1]; exact HR3.out
  case pos =>
  have hki : (k : Int) < (n : Int) := by omega
  have hpk := (HP.out k hlt).below HBW.out (HP.out k hlt).lt
  have c2 := hpk.c2
  have h64 := (Rc.fullTo_iff f n).1 HFu.out k hlt
  obtain ⟨s, hs⟩ : ∃ s, s = (f k).data := ⟨_, rfl⟩
  rw [← hs] at c2 h64
  have HS : Hid (s = (f k).data) := hs
  have hlim : ¬ 9223372036854775807 < y.size + s.size := by omega
  have hlim2 : ¬ 9223372036854775807 < y.size + 64 := by omega
  have t1 : True := trivial
  clear hpk hs
  go_wp2_with (first | (at_builtin; go_loud (have _t := t1; refine wpList_append_own _ rfl _ _ 42 rfl w1.heap.size 9 i0 (.string ByteArray.empty) 1 16 Tryz.underlying42 hi hz0 hz1 hz2 rfl (by decide) u k (textVals k fun j => (f j).data) rfl (OWN.out.alloc _) ⟨_, 0, none⟩ 1 1 [.string s] rfl rfl (cell_one_new _ _ _) (by simp [Value.oneCell']) (by unfold maxLen; omega) (by omega) (by simp; omega) ?_; intro v' w3 hown' hgrow _; obtain ⟨g', cap', rfl⟩ := ownsRow_succ hown'; have hb3 := below_append OWN.out hsz hgrow; have OWN3 : Hid (w3.ownsRow w1.heap.size 9 1 (.slice (some ⟨g', 0, none⟩) (k + 1) cap') (k + 1) (textVals (k + 1) fun j => (f j).data)) := (by rw [← textVals_snoc, ← HS.out]; exact hown'); have HB3 : Hid (Below w1.heap.size w1 w3) := HB.out.trans hb3; clear hown' hgrow hb3 t1)))
  go_roundg (n - (k + 1))
  case measure => omega
  case rel => exact ⟨k + 1, _, _, by omega, rfl, rfl, by rw [HYc.out, HS.out]; rfl, rfl, by go_num, OWN3.out, HB3.out⟩

/-- the document's own Encode, of any record -/
theorem rEncode12_new (seq : Nat) (row : Int) (a : Option Addr) (n cap : Nat) (f : Nat → Prt) (w : World) (h0 : seq < 18446744073709551616) (hin : RecIn row n f) (hp : PartsR w a n f) :
    Calls Tryz.prog 67 #[.agg #[.int .u64 (seq : Int), .int .i64 row, .slice a n cap]] w (EncNew12 w seq row n f) := by
  cases h : Rc.mayB row n f with
  | false => exact rEncode12_no seq row a n cap f w hin hp h
  | true =>
    obtain ⟨r0, r1, n1, n40⟩ := (Rc.few_iff _ _).1 ((Rc.places_iff _ _ _).1 ((Rc.may_iff _ _ _).1 h).2).1
    obtain ⟨b, off, rfl, hp2⟩ := hp.head (by omega)
    obtain ⟨rw_, rfl⟩ := Int.eq_ofNat_of_zero_le r0
    exact rEncode12_yes seq rw_ b off n cap f w h0 hin hp2 h
theorem rEncode12_any (seq : Nat) (row : Int) (a : Option Addr) (n cap : Nat) (f : Nat → Prt) (w : World) (h0 : seq < 18446744073709551616) (hin : RecIn row n f) (hp : PartsR w a n f) :
    Calls Tryz.prog 67 #[.agg #[.int .u64 (seq : Int), .int .i64 row, .slice a n cap]] w (EncAns w seq row n f) :=
  (rEncode12_new seq row a n cap f w h0 hin hp).mono fun _ _ ⟨a, cap, he, hr, _, hb⟩ => ⟨a, cap, he, hr, hb⟩
end Go.Proofs.YtjmeiifogblmoaaGreatDoor
