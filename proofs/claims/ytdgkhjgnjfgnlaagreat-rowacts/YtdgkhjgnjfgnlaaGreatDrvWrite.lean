import Derived.Test.YtdgkhjgnjfgnlaaGreatMDrvB
import Derived.Test.YtdgkhjgnjfgnlaaGreatMKitD
namespace Go.Proofs.YtdgkhjgnjfgnlaaGreat
open Go.RowKit Go.Maps
theorem takeE_le (D : Dr) (i : Int) (m : Nat) : D.takeE i m ≤ 70 := by have := reachE_le D i; unfold Dr.takeE; (repeat' split) <;> omega
set_option maxRecDepth 100000 in
set_option maxHeartbeats 400000 in
theorem write_no {w : World} {p : Nat} {D : Dr} {F : Nat → Prop} (h : DriveAt w p D F) (i : Int) (s : ByteArray) (hr : D.takeE i s.size ≠ 0) :
  Calls Tryz.prog 66 #[.pointer (some ⟨p, 0, none⟩), .int .i64 i, .string s] w fun e w' => e = .returned (.int .i64 (D.takeE i s.size : Nat)) ∧ w' = w := by
 have hc := takes_any h i s
 have hle := takeE_le D i s.size
 obtain ⟨r, er⟩ : ∃ r, r = D.takeE i s.size := ⟨_, rfl⟩
 rw [← er] at hc hr hle ⊢
 have hne : ((r : Int) == 0) = false := by rw [beq_eq_false_iff_ne]; omega
 clear er
 go_enter Tryz.func66, Tryz.ntmps66
 go_wp2_with fail
 refine hc.mono ?_
 rintro e w' ⟨rfl, rfl⟩
 go_wp2
 go_ret
 exact ⟨rfl, rfl⟩
theorem row_news (w : World) (l : List UInt8) : ∀ j u, (byteVals l)[j]? = some u → (w.alloc (.cells (byteVals l).toArray 128)).cell? ((⟨w.heap.size, 0, none⟩ : Addr).add j) = some u := by
 intro j u hj
 rw [Addr.add_mid, Nat.zero_add, cell_of_row _ w.heap.size j _ _ _ (heap_alloc_last w _)]
 simpa using hj
set_option maxRecDepth 100000 in
set_option maxHeartbeats 2000000 in
theorem write_yes {w : World} {p : Nat} {D : Dr} {F : Nat → Prop} (h : DriveAt w p D F) (i : Nat) (s : ByteArray) (hr : D.takeE i s.size = 0) (hi : i < D.safe.length) (hlen : (D.writes i).length ≤ 1000000) :
  Calls Tryz.prog 66 #[.pointer (some ⟨p, 0, none⟩), .int .i64 (i : Nat), .string s] w fun e w' => e = .returned (.int .i64 0) ∧ DriveAt w' p (D.write i s.data.toList) (Plus F w.heap.size) ∧ Only F w w' := by
 have hc := takes_any h i s
 rw [hr] at hc
 have hs : s.size = 64 := by
  unfold Dr.takeE at hr
  split at hr
  ·split at hr
   ·assumption
   ·simp at hr
  ·rename_i h0; exact absurd hr h0
 have hrun : D.runsE = 0 := by
  unfold Dr.takeE at hr
  split at hr
  ·rename_i h0; exact (Dr.reach_has h0).1
  ·rename_i h0; exact absurd hr h0
 have hsl : s.data.toList.length = 64 := hs
 obtain ⟨sb, pb, mb, hd, hin, hf⟩ := h
 have c2 := hin.cells.c2
 obtain ⟨M, hM⟩ := hin.map
 have hle := hin.ok.le
 obtain ⟨d0, hd0⟩ := hdrD_owns (hin.rows i)
 have lkA : ∀ W, Below w.heap.size w W → (Instr.lookup 105 (.map (some mb)) (.int .i64 (i : Nat)) false).run Tryz.prog W = .ok (hd i) W := fun W hb => (hM.only (Only.of_below hb (fun _ => False)) (fun hf => hf)).look hi hle hd0
 obtain ⟨v0, hv0⟩ : ∃ v0, v0 = hd i := ⟨_, rfl⟩
 have LK : Hid (∀ W, Below w.heap.size w W → (Instr.lookup 105 (.map (some mb)) (.int .i64 (i : Nat)) false).run Tryz.prog W = .ok v0 W) := fun W hb => by rw [hv0]; exact lkA W hb
 have CA : Hid (∀ W, Below w.heap.size w W → W.cell? ⟨p, 2, none⟩ = some (.map (some mb))) := fun W hb => (hb.cell (p := ⟨p, 2, none⟩) (hin.lt p (.inl rfl))).trans c2
 have HR : Hid (w.ownsRow 0 128 64 v0 (D.writes i).length (flat (D.writes i))) := by rw [hv0]; exact hin.rows i
 have HI : Hid (DrvIn w p sb pb mb hd D) := hin
 have HM : Hid (MapIn w mb hd D M) := hM
 have HV : Hid (v0 = hd i) := hv0
 have Hi : Hid (i < D.safe.length) := hi
 have Hle : Hid (D.safe.length ≤ 4096) := hle
 have Hlen : Hid ((D.writes i).length ≤ 1000000) := hlen
 have Hs : Hid (s.size = 64) := hs
 have Hsl : Hid (s.data.toList.length = 64) := hsl
 have Hrun : Hid (D.runsE = 0) := hrun
 have HF : Hid (∀ k, Foot p sb pb mb hd k → F k) := hf
 obtain ⟨i0, hi0, hz0, hz1, hz2⟩ := info_parts info_sector3
 have HI0 : Hid (Tryz.prog.info? 128 = some i0 ∧ i0.zero = some (.agg (Array.replicate 64 (.int .u8 0))) ∧ i0.size = 64 ∧ i0.bytes = 64) := ⟨hi0, hz0, hz1, hz2⟩
 have hmx : Tryz.prog.follows .mixedOrders = true := by kernel_rfl
 have HMX : Hid (Tryz.prog.follows .mixedOrders = true) := hmx
 clear hin hM hr hs hrun hf hsl hlen hd0 lkA hv0 hi0 hz0 hz1 hz2 hmx hi hle
 go_enter Tryz.func66, Tryz.ntmps66
 go_wp2_with fail
 refine hc.mono ?_
 rintro e w' ⟨rfl, rfl⟩
 clear hc
 go_wp2_with fail
 refine wp_region_held (S := fun W => W.cell? ⟨p, 2, none⟩ = some (.map (some mb))) HMX.out ?_
 have hS : (fun W : World => W.cell? ⟨p, 2, none⟩ = some (.map (some mb))) w'.drew := CA.out w' (Below.refl _ _)
 change wpAnyH _ _ _ _ _ _ _ _ w'.drew
 refine held_quiet 0 (v := ?v0q1) rfl (by kernel_rfl) (fun _ _ _ h => h) (by assumption) rfl ?hy0q1 ?rest0q1
 case hy0q1 => (intro wS hSw; (try dsimp only at hSw); go_simp; try with_reducible rfl)
 try simp only [Act.put, List.setIfInBounds_toArray, List.set_cons_zero, List.set_cons_succ]
 refine held_quiet 1 (v := ?v1q2) rfl (by kernel_rfl) (fun _ _ _ h => h) (by assumption) rfl ?hy1q2 ?rest1q2
 case hy1q2 => (intro wS hSw; (try dsimp only at hSw); go_simp; try with_reducible rfl)
 try simp only [Act.put, List.setIfInBounds_toArray, List.set_cons_zero, List.set_cons_succ]
 refine held_quiet 2 (v := ?v2q3) rfl (by kernel_rfl) (fun _ _ _ h => h) (by assumption) rfl ?hy2q3 ?rest2q3
 case hy2q3 => (intro wS hSw; (try dsimp only at hSw); go_simp; try with_reducible rfl)
 try simp only [Act.put, List.setIfInBounds_toArray, List.set_cons_zero, List.set_cons_succ]
 refine held_quiet 3 (v := ?v3q4) rfl (by kernel_rfl) (fun _ _ _ h => h) (by assumption) rfl ?hy3q4 ?rest3q4
 case hy3q4 => (intro wS hSw; (try dsimp only at hSw); go_simp; try with_reducible rfl)
 try simp only [Act.put, List.setIfInBounds_toArray, List.set_cons_zero, List.set_cons_succ]
 refine held_quiet 4 (v := ?v4q5) rfl (by kernel_rfl) (fun _ _ _ h => h) (by assumption) rfl ?hy4q5 ?rest4q5
 case hy4q5 => (intro wS hSw; (try dsimp only at hSw); go_simp; try with_reducible rfl)
 try simp only [Act.put, List.setIfInBounds_toArray, List.set_cons_zero, List.set_cons_succ]
 refine held_quiet 5 (v := ?v5q6) rfl (by kernel_rfl) (fun _ _ _ h => h) (by assumption) rfl ?hy5q6 ?rest5q6
 case hy5q6 => (intro wS hSw; (try dsimp only at hSw); go_simp; try with_reducible rfl)
 try simp only [Act.put, List.setIfInBounds_toArray, List.set_cons_zero, List.set_cons_succ]
 refine held_quiet 6 (v := ?v6q7) rfl (by kernel_rfl) (fun _ _ _ h => h) (by assumption) rfl ?hy6q7 ?rest6q7
 case hy6q7 => (intro wS hSw; (try dsimp only at hSw); go_simp; try with_reducible rfl)
 try simp only [Act.put, List.setIfInBounds_toArray, List.set_cons_zero, List.set_cons_succ]
 refine held_quiet 7 (v := ?v7q8) rfl (by kernel_rfl) (fun _ _ _ h => h) (by assumption) rfl ?hy7q8 ?rest7q8
 case hy7q8 => (intro wS hSw; (try dsimp only at hSw); go_simp; try with_reducible rfl)
 try simp only [Act.put, List.setIfInBounds_toArray, List.set_cons_zero, List.set_cons_succ]
 refine held_quiet 8 (v := ?v8q9) rfl (by kernel_rfl) (fun _ _ _ h => h) (by assumption) rfl ?hy8q9 ?rest8q9
 case hy8q9 => (intro wS hSw; (try dsimp only at hSw); go_simp; try with_reducible rfl)
 try simp only [Act.put, List.setIfInBounds_toArray, List.set_cons_zero, List.set_cons_succ]
 refine held_quiet 9 (v := ?v9q10) rfl (by kernel_rfl) (fun _ _ _ h => h) (by assumption) rfl ?hy9q10 ?rest9q10
 case hy9q10 => (intro wS hSw; (try dsimp only at hSw); go_simp; try with_reducible rfl)
 try simp only [Act.put, List.setIfInBounds_toArray, List.set_cons_zero, List.set_cons_succ]
 refine held_quiet 11 (v := ?v11q11) rfl (by kernel_rfl) (fun _ _ _ h => h) (by assumption) rfl ?hy11q11 ?rest11q11
 case hy11q11 => (intro wS hSw; (try dsimp only at hSw); go_simp; try with_reducible rfl)
 try simp only [Act.put, List.setIfInBounds_toArray, List.set_cons_zero, List.set_cons_succ]
 refine held_two 10 12 rfl rfl (by kernel_rfl) ?_ ?_
 ·-- the look-up first
  have lk := LK.out w'.drew (Below.refl _ w').drew
  go_wp2
  try refine ⟨hS, ?_⟩
  refine held_one 12 rfl (by kernel_rfl) ?_
  go_wp2_with (go_at_call 95; refine (filled_any s Hs.out _).mono ?_; rintro e w1 ⟨rfl, hb1⟩)
  have hB1 : Below w'.heap.size w' w1 := (Below.refl _ w').drew.trans hb1
  try refine ⟨CA.out w1 hB1, ?_⟩
  refine held_one 13 rfl (by kernel_rfl) ?_
  refine wpList_build_sector rfl _ rfl (byteVals s.data.toList).toArray rfl ((byteVals_length _).trans Hsl.out) ?_
  refine ⟨CA.out _ (hB1.alloc hB1.size _), ?_⟩
  have hown2 : (w1.alloc (.cells (byteVals s.data.toList).toArray 128)).ownsRow 0 128 64 v0 (D.writes i).length (flat (D.writes i)) := (ownsRow_below HR.out hB1).alloc _
  have hB2 : Below w'.heap.size w' (w1.alloc (.cells (byteVals s.data.toList).toArray 128)) := hB1.alloc hB1.size _
  refine held_one 14 rfl (by kernel_rfl) ?_
  refine wpList_append_own_at _ rfl _ _ 104 rfl 0 128 i0 (.agg (Array.replicate 64 (.int .u8 0))) 64 64 Tryz.underlying104 HI0.out.1 HI0.out.2.1 HI0.out.2.2.1 HI0.out.2.2.2 (by simp [Value.cells]) (by decide) v0 (D.writes i).length (flat (D.writes i)) rfl hown2 ⟨w1.heap.size, 0, none⟩ 1 1 (byteVals s.data.toList) rfl (by rw [byteVals_length, Hsl.out]) (row_news w1 s.data.toList) (byteVals_one _) (by have := Hlen.out; unfold maxLen; omega) (by have := Hlen.out; omega) (Nat.zero_le _) ?_
  intro v' w3 hown3 hg3 hnil3 hloc3
  obtain ⟨d, hd3⟩ := hdrD_owns hown3
  have hM3 : MapIn w3 mb hd D M := (HM.out.only (Only.of_below hB2 (fun _ => False)) (fun hf => hf)).only (Only.of_grown hg3 (fun k => v0.ownBlock = some k) (fun k hk => hk)) (fun e => HI.out.others.r_mb i (by rw [← HV.out]; exact e))
  have hS3 : w3.cell? ⟨p, 2, none⟩ = some (.map (some mb)) := hg3.cell (a := ⟨p, 2, none⟩) (CA.out _ hB2) (fun e => HI.out.others.r_p i (by rw [← HV.out]; exact e.symm))
  refine ⟨hS3, ?_⟩
  refine held_one 15 rfl (by kernel_rfl) ?_
  refine wpList_mapUpdate_own _ rfl _ _ _ 105 rfl 3 104 (int_keyed Tryz.underlying3) Tryz.underlying105 hdrD mb (Maps.size M) M rfl hM3.owns (by have h1 := hM3.size_le; have h2 := Hle.out; unfold maxLen; omega) (.int .i64 (i : Nat)) v' (keyL i) rfl rfl (keyOf_at i (by have h1 := Hi.out; have h2 := Hle.out; omega)) d [] hd3 ?_
  intro w4 hown4 hg4
  obtain ⟨g1, g2, g3⟩ := HI.out.wrote HM.out Hi.out Hsl.out hB2 (by rw [← HV.out]; exact hg3) hown3 (by rw [← HV.out]; exact hloc3) hd3 hown4 hg4
  have hS4 : w4.cell? ⟨p, 2, none⟩ = some (.map (some mb)) := g1.cells.c2
  refine ⟨hS4, ?_⟩
  refine held_done (by kernel_rfl) ?_
  have c1 := g1.cells.c1
  obtain ⟨cs, fs⟩ := g1.markAt Hi.out
  have G1 : Hid (DrvIn w4 p sb pb mb _ _) := g1
  have G2 : Hid (Only (Foot p sb pb mb hd) w' w4) := g2
  have G3 : Hid (∀ k, Foot p sb pb mb _ k → Foot p sb pb mb hd k ∨ w'.heap.size ≤ k) := g3
  obtain ⟨b0, hb0⟩ : ∃ b0, b0 = D.spoilt.getD i false := ⟨_, rfl⟩
  have cs' : w4.cell? ⟨pb, i, none⟩ = some (.bool b0) := by rw [hb0]; exact cs
  obtain ⟨n, hn⟩ : ∃ n, n = D.safe.length := ⟨_, rfl⟩
  have c1' : w4.cell? ⟨p, 1, none⟩ = some (.slice (some ⟨pb, 0, none⟩) n n) := by rw [hn]; exact c1
  have hin' : i < n := by rw [hn]; exact Hi.out
  have hn' : n ≤ 4096 := by rw [hn]; exact Hle.out
  clear g1 g2 g3 hS3 hS4 hd3 hM3 hown4 hg4 hown3 hg3 hnil3 hloc3 hown2 hB2 hB1 hb1 cs c1 hb0 hn
  go_wp2_with fail
  have hD5 : DriveAt (w4.setCell ⟨pb, i, none⟩ (.bool false)) p (D.put i s.data.toList) (Plus F w'.heap.size) := ⟨sb, pb, mb, _, G1.out.mark i false, fun k hk => (G3.out k hk).imp (HF.out k) id⟩
  have hO5 : Only (Foot p sb pb mb hd) w' (w4.setCell ⟨pb, i, none⟩ (.bool false)) := G2.out.then (Only.setCell _ w4 ⟨pb, i, none⟩ _ (.inr (.inr (.inl rfl))))
  refine (spend_any hD5 Hrun.out).mono ?_
  rintro e w6 ⟨rfl, hd6, ho6⟩
  have D6 : Hid (DriveAt w6 p (D.write i s.data.toList) (Plus F w'.heap.size)) := hd6
  have O6 : Hid (Only F w' w6) := (hO5.mono HF.out).trans (ho6.mono fun k hk => hk)
  clear hD5 hO5 hd6 ho6
  go_wp2
  go_ret
  exact ⟨rfl, D6.out, O6.out⟩
 ·-- the text first
  go_wp2_with (go_at_call 95; refine (filled_any s Hs.out _).mono ?_; rintro e w1 ⟨rfl, hb1⟩)
  have hB1 : Below w'.heap.size w' w1 := (Below.refl _ w').drew.trans hb1
  try refine ⟨CA.out w1 hB1, ?_⟩
  refine held_two 10 13 rfl rfl (by kernel_rfl) ?_ ?_
  ·-- the look-up next
   have lk := LK.out w1 hB1
   go_wp2
   try refine ⟨CA.out w1 hB1, ?_⟩
   refine held_one 13 rfl (by kernel_rfl) ?_
   refine wpList_build_sector rfl _ rfl (byteVals s.data.toList).toArray rfl ((byteVals_length _).trans Hsl.out) ?_
   refine ⟨CA.out _ (hB1.alloc hB1.size _), ?_⟩
   have hown2 : (w1.alloc (.cells (byteVals s.data.toList).toArray 128)).ownsRow 0 128 64 v0 (D.writes i).length (flat (D.writes i)) := (ownsRow_below HR.out hB1).alloc _
   have hB2 : Below w'.heap.size w' (w1.alloc (.cells (byteVals s.data.toList).toArray 128)) := hB1.alloc hB1.size _
   refine held_one 14 rfl (by kernel_rfl) ?_
   refine wpList_append_own_at _ rfl _ _ 104 rfl 0 128 i0 (.agg (Array.replicate 64 (.int .u8 0))) 64 64 Tryz.underlying104 HI0.out.1 HI0.out.2.1 HI0.out.2.2.1 HI0.out.2.2.2 (by simp [Value.cells]) (by decide) v0 (D.writes i).length (flat (D.writes i)) rfl hown2 ⟨w1.heap.size, 0, none⟩ 1 1 (byteVals s.data.toList) rfl (by rw [byteVals_length, Hsl.out]) (row_news w1 s.data.toList) (byteVals_one _) (by have := Hlen.out; unfold maxLen; omega) (by have := Hlen.out; omega) (Nat.zero_le _) ?_
   intro v' w3 hown3 hg3 hnil3 hloc3
   obtain ⟨d, hd3⟩ := hdrD_owns hown3
   have hM3 : MapIn w3 mb hd D M := (HM.out.only (Only.of_below hB2 (fun _ => False)) (fun hf => hf)).only (Only.of_grown hg3 (fun k => v0.ownBlock = some k) (fun k hk => hk)) (fun e => HI.out.others.r_mb i (by rw [← HV.out]; exact e))
   have hS3 : w3.cell? ⟨p, 2, none⟩ = some (.map (some mb)) := hg3.cell (a := ⟨p, 2, none⟩) (CA.out _ hB2) (fun e => HI.out.others.r_p i (by rw [← HV.out]; exact e.symm))
   refine ⟨hS3, ?_⟩
   refine held_one 15 rfl (by kernel_rfl) ?_
   refine wpList_mapUpdate_own _ rfl _ _ _ 105 rfl 3 104 (int_keyed Tryz.underlying3) Tryz.underlying105 hdrD mb (Maps.size M) M rfl hM3.owns (by have h1 := hM3.size_le; have h2 := Hle.out; unfold maxLen; omega) (.int .i64 (i : Nat)) v' (keyL i) rfl rfl (keyOf_at i (by have h1 := Hi.out; have h2 := Hle.out; omega)) d [] hd3 ?_
   intro w4 hown4 hg4
   obtain ⟨g1, g2, g3⟩ := HI.out.wrote HM.out Hi.out Hsl.out hB2 (by rw [← HV.out]; exact hg3) hown3 (by rw [← HV.out]; exact hloc3) hd3 hown4 hg4
   have hS4 : w4.cell? ⟨p, 2, none⟩ = some (.map (some mb)) := g1.cells.c2
   refine ⟨hS4, ?_⟩
   refine held_done (by kernel_rfl) ?_
   have c1 := g1.cells.c1
   obtain ⟨cs, fs⟩ := g1.markAt Hi.out
   have G1 : Hid (DrvIn w4 p sb pb mb _ _) := g1
   have G2 : Hid (Only (Foot p sb pb mb hd) w' w4) := g2
   have G3 : Hid (∀ k, Foot p sb pb mb _ k → Foot p sb pb mb hd k ∨ w'.heap.size ≤ k) := g3
   obtain ⟨b0, hb0⟩ : ∃ b0, b0 = D.spoilt.getD i false := ⟨_, rfl⟩
   have cs' : w4.cell? ⟨pb, i, none⟩ = some (.bool b0) := by rw [hb0]; exact cs
   obtain ⟨n, hn⟩ : ∃ n, n = D.safe.length := ⟨_, rfl⟩
   have c1' : w4.cell? ⟨p, 1, none⟩ = some (.slice (some ⟨pb, 0, none⟩) n n) := by rw [hn]; exact c1
   have hin' : i < n := by rw [hn]; exact Hi.out
   have hn' : n ≤ 4096 := by rw [hn]; exact Hle.out
   clear g1 g2 g3 hS3 hS4 hd3 hM3 hown4 hg4 hown3 hg3 hnil3 hloc3 hown2 hB2 hB1 hb1 cs c1 hb0 hn
   go_wp2_with fail
   have hD5 : DriveAt (w4.setCell ⟨pb, i, none⟩ (.bool false)) p (D.put i s.data.toList) (Plus F w'.heap.size) := ⟨sb, pb, mb, _, G1.out.mark i false, fun k hk => (G3.out k hk).imp (HF.out k) id⟩
   have hO5 : Only (Foot p sb pb mb hd) w' (w4.setCell ⟨pb, i, none⟩ (.bool false)) := G2.out.then (Only.setCell _ w4 ⟨pb, i, none⟩ _ (.inr (.inr (.inl rfl))))
   refine (spend_any hD5 Hrun.out).mono ?_
   rintro e w6 ⟨rfl, hd6, ho6⟩
   have D6 : Hid (DriveAt w6 p (D.write i s.data.toList) (Plus F w'.heap.size)) := hd6
   have O6 : Hid (Only F w' w6) := (hO5.mono HF.out).trans (ho6.mono fun k hk => hk)
   clear hD5 hO5 hd6 ho6
   go_wp2
   go_ret
   exact ⟨rfl, D6.out, O6.out⟩
  ·-- the slice next
   refine wpList_build_sector rfl _ rfl (byteVals s.data.toList).toArray rfl ((byteVals_length _).trans Hsl.out) ?_
   refine ⟨CA.out _ (hB1.alloc hB1.size _), ?_⟩
   refine held_one 10 rfl (by kernel_rfl) ?_
   have lk := LK.out (w1.alloc (.cells (byteVals s.data.toList).toArray 128)) (hB1.alloc hB1.size _)
   go_wp2
   try refine ⟨CA.out _ (hB1.alloc hB1.size _), ?_⟩
   have hown2 : (w1.alloc (.cells (byteVals s.data.toList).toArray 128)).ownsRow 0 128 64 v0 (D.writes i).length (flat (D.writes i)) := (ownsRow_below HR.out hB1).alloc _
   have hB2 : Below w'.heap.size w' (w1.alloc (.cells (byteVals s.data.toList).toArray 128)) := hB1.alloc hB1.size _
   refine held_one 14 rfl (by kernel_rfl) ?_
   refine wpList_append_own_at _ rfl _ _ 104 rfl 0 128 i0 (.agg (Array.replicate 64 (.int .u8 0))) 64 64 Tryz.underlying104 HI0.out.1 HI0.out.2.1 HI0.out.2.2.1 HI0.out.2.2.2 (by simp [Value.cells]) (by decide) v0 (D.writes i).length (flat (D.writes i)) rfl hown2 ⟨w1.heap.size, 0, none⟩ 1 1 (byteVals s.data.toList) rfl (by rw [byteVals_length, Hsl.out]) (row_news w1 s.data.toList) (byteVals_one _) (by have := Hlen.out; unfold maxLen; omega) (by have := Hlen.out; omega) (Nat.zero_le _) ?_
   intro v' w3 hown3 hg3 hnil3 hloc3
   obtain ⟨d, hd3⟩ := hdrD_owns hown3
   have hM3 : MapIn w3 mb hd D M := (HM.out.only (Only.of_below hB2 (fun _ => False)) (fun hf => hf)).only (Only.of_grown hg3 (fun k => v0.ownBlock = some k) (fun k hk => hk)) (fun e => HI.out.others.r_mb i (by rw [← HV.out]; exact e))
   have hS3 : w3.cell? ⟨p, 2, none⟩ = some (.map (some mb)) := hg3.cell (a := ⟨p, 2, none⟩) (CA.out _ hB2) (fun e => HI.out.others.r_p i (by rw [← HV.out]; exact e.symm))
   refine ⟨hS3, ?_⟩
   refine held_one 15 rfl (by kernel_rfl) ?_
   refine wpList_mapUpdate_own _ rfl _ _ _ 105 rfl 3 104 (int_keyed Tryz.underlying3) Tryz.underlying105 hdrD mb (Maps.size M) M rfl hM3.owns (by have h1 := hM3.size_le; have h2 := Hle.out; unfold maxLen; omega) (.int .i64 (i : Nat)) v' (keyL i) rfl rfl (keyOf_at i (by have h1 := Hi.out; have h2 := Hle.out; omega)) d [] hd3 ?_
   intro w4 hown4 hg4
   obtain ⟨g1, g2, g3⟩ := HI.out.wrote HM.out Hi.out Hsl.out hB2 (by rw [← HV.out]; exact hg3) hown3 (by rw [← HV.out]; exact hloc3) hd3 hown4 hg4
   have hS4 : w4.cell? ⟨p, 2, none⟩ = some (.map (some mb)) := g1.cells.c2
   refine ⟨hS4, ?_⟩
   refine held_done (by kernel_rfl) ?_
   have c1 := g1.cells.c1
   obtain ⟨cs, fs⟩ := g1.markAt Hi.out
   have G1 : Hid (DrvIn w4 p sb pb mb _ _) := g1
   have G2 : Hid (Only (Foot p sb pb mb hd) w' w4) := g2
   have G3 : Hid (∀ k, Foot p sb pb mb _ k → Foot p sb pb mb hd k ∨ w'.heap.size ≤ k) := g3
   obtain ⟨b0, hb0⟩ : ∃ b0, b0 = D.spoilt.getD i false := ⟨_, rfl⟩
   have cs' : w4.cell? ⟨pb, i, none⟩ = some (.bool b0) := by rw [hb0]; exact cs
   obtain ⟨n, hn⟩ : ∃ n, n = D.safe.length := ⟨_, rfl⟩
   have c1' : w4.cell? ⟨p, 1, none⟩ = some (.slice (some ⟨pb, 0, none⟩) n n) := by rw [hn]; exact c1
   have hin' : i < n := by rw [hn]; exact Hi.out
   have hn' : n ≤ 4096 := by rw [hn]; exact Hle.out
   clear g1 g2 g3 hS3 hS4 hd3 hM3 hown4 hg4 hown3 hg3 hnil3 hloc3 hown2 hB2 hB1 hb1 cs c1 hb0 hn
   go_wp2_with fail
   have hD5 : DriveAt (w4.setCell ⟨pb, i, none⟩ (.bool false)) p (D.put i s.data.toList) (Plus F w'.heap.size) := ⟨sb, pb, mb, _, G1.out.mark i false, fun k hk => (G3.out k hk).imp (HF.out k) id⟩
   have hO5 : Only (Foot p sb pb mb hd) w' (w4.setCell ⟨pb, i, none⟩ (.bool false)) := G2.out.then (Only.setCell _ w4 ⟨pb, i, none⟩ _ (.inr (.inr (.inl rfl))))
   refine (spend_any hD5 Hrun.out).mono ?_
   rintro e w6 ⟨rfl, hd6, ho6⟩
   have D6 : Hid (DriveAt w6 p (D.write i s.data.toList) (Plus F w'.heap.size)) := hd6
   have O6 : Hid (Only F w' w6) := (hO5.mono HF.out).trans (ho6.mono fun k hk => hk)
   clear hD5 hO5 hd6 ho6
   go_wp2
   go_ret
   exact ⟨rfl, D6.out, O6.out⟩
end Go.Proofs.YtdgkhjgnjfgnlaaGreat
