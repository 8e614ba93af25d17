/- The walk of Change: a text is made safe, behind everybody's back. -/
import Derived.Test.YtgkhnfchohcjeaaMDrvC
import Derived.Test.YtgkhnfchohcjeaaDrvWrite
namespace Go.Proofs.Ytgkhnfchohcjeaa
open Go.RowKit Go.Maps Go.ChangeMaps

theorem Only.of_map {w w' : World} {b : Nat} (h : w.mapTurned w' b) : Only (One b) w w' :=
  by
  obtain ⟨es, cl, es', cl', hb, rfl⟩ := h
  exact ⟨rfl, rfl, rfl, by simp [ChangeMaps.setBlock], fun k _ hn => heap_setBlock_other hb _ (fun e => hn e)⟩
/-- a sector's writes are dropped -/
theorem DrvIn.dropped {w w' : World} {p sb pb mb : Nat} {hd : Nat → Value} {D : Dr} {M : DataW Unit} (h : DrvIn w p sb pb mb hd D) (hM : MapIn w mb hd D M) {i m : Nat}
    (ho : w'.ownsMap Try.prog 3 hdrD mb m (M.del (keyL i))) (hg : Only (One mb) w w') :
    DrvIn w' p sb pb mb (fun j => if j = i then .slice none 0 0 else hd j) { D with writes := fun j => if j = i then [] else D.writes j } := by
  have ho1 := h.others
  have lt := h.lt
  obtain ⟨c1, hsf, hs2⟩ := h.safe
  obtain ⟨c2, hp, hp2⟩ := h.spoilt
  refine ⟨⟨h.ok.pos, h.ok.le, h.ok.spoilt, h.ok.sector, fun j s hs => ?_, fun j hj => ?_, h.ok.left⟩, (hg.block p (lt p (.inl rfl)) ho1.p_mb).trans h.self, ⟨c1, (hg.block sb (lt sb (.inr (.inl rfl))) ho1.sb_mb).trans hsf, hs2⟩, ⟨c2, (hg.block pb (lt pb (.inr (.inr (.inl rfl)))) ho1.pb_mb).trans hp, hp2⟩, ⟨_, hM.del ho rfl (if_pos rfl) (fun j hj => if_neg hj)⟩, fun j => ?_, fun j hj => ?_, fun j e => ?_, fun a b hab k ha hb => ?_⟩
  · dsimp only at hs
    split at hs
    · exact absurd hs List.not_mem_nil
    · exact h.ok.writes j s hs
  · show (if j = i then [] else D.writes j) = []
    split
    · rfl
    · exact h.ok.out j hj
  · show w'.ownsRow 0 71 64 (if j = i then .slice none 0 0 else hd j) (if j = i then [] else D.writes j).length (flat (if j = i then [] else D.writes j))
    by_cases e : j = i
    · simp only [if_pos e]; exact World.ownsRow_nil _ 0 _ 64
    · simp only [if_neg e]; exact ownsRow_only hg (h.rows j) (fun k hk e => ho1.r_mb j (by rw [hk]; exact congrArg some e))
  · dsimp only at hj ⊢
    split
    · rfl
    · rename_i e; rw [if_neg e] at hj; exact h.nil j hj
  · split at e
    · simp [Value.ownBlock] at e
    · exact h.off j e
  · split at ha
    · simp [Value.ownBlock] at ha
    · split at hb
      · simp [Value.ownBlock] at hb
      · exact h.apart a b hab k ha hb

set_option maxRecDepth 100000 in
set_option maxHeartbeats 4000000 in
theorem change_yes {w : World} {p : Nat} {D : Dr} {F : Nat → Prop} (h : DriveAt w p D F) (i : Nat) (s : ByteArray) (hr : D.takeE i s.size = 0) (hi : i < D.safe.length) :
    Calls Try.prog 18 #[.pointer (some ⟨p, 0, none⟩), .int .i64 (i : Nat), .string s] w fun e w' => e = .returned (.int .i64 0) ∧ DriveAt w' p (D.change i s.data.toList) F ∧ Only F w w' := by
  have hc := takes_any h i s
  rw [hr] at hc
  have hs : s.size = 64 := by
    unfold Dr.takeE at hr
    split at hr
    · split at hr
      · assumption
      · simp at hr
    · rename_i h0; exact absurd hr h0
  have hsl : s.data.toList.length = 64 := hs
  obtain ⟨sb, pb, mb, hd, hin, hf⟩ := h
  have c0 := hin.cells.c0
  have hle := hin.ok.le
  obtain ⟨n, hn⟩ : ∃ n, n = D.safe.length := ⟨_, rfl⟩
  rw [← hn] at c0
  have hin2 : i < n := by rw [hn]; exact hi
  have hn4 : n ≤ 4096 := by rw [hn]; exact hle
  obtain ⟨x, hx⟩ : ∃ x, x = s.data.toList := ⟨_, rfl⟩
  rw [← hx] at hsl
  have CA : Hid (∀ W, Below w.heap.size w W → W.cell? ⟨p, 0, none⟩ = some (.slice (some ⟨sb, 0, none⟩) n n)) := fun W hb => (hb.cell (p := ⟨p, 0, none⟩) (hin.lt p (.inl rfl))).trans c0
  have XI : Hid ((Try.prog.info? 71).map (·.size) = some (byteVals x).toArray.size) := by unfold Hid; rw [show (byteVals x).toArray.size = 64 from (byteVals_length x).trans hsl]; exact info_sector
  have HI : Hid (DrvIn w p sb pb mb hd D) := hin
  have HF : Hid (∀ k, Foot p sb pb mb hd k → F k) := hf
  have HX : Hid (x = s.data.toList) := hx
  have HXL : Hid (x.length = 64) := hsl
  have HN : Hid (n = D.safe.length) := hn
  have Hi : Hid (i < D.safe.length) := hi
  have Hs : Hid (s.size = 64) := hs
  have HMX : Hid (Try.prog.follows .mixedOrders = true) := by show _ = _; kernel_rfl
  clear hin hf hx hsl hn hi hs hr c0 hle
  go_enter Try.func18, Try.ntmps18
  go_wp2_with fail
  refine hc.mono ?_
  rintro e w' ⟨rfl, rfl⟩
  clear hc
  go_wp2_with fail
  refine wp_region_held (S := fun W => W.cell? ⟨p, 0, none⟩ = some (.slice (some ⟨sb, 0, none⟩) n n)) HMX.out ?_
  have hS : (fun W : World => W.cell? ⟨p, 0, none⟩ = some (.slice (some ⟨sb, 0, none⟩) n n)) w'.drew := CA.out w' (Below.refl _ _)
  change wpAnyH _ _ _ _ _ _ _ _ w'.drew
  refine held_quiet 0 (v := ?v0q1) rfl (by kernel_rfl) (fun _ _ _ h => h) (by assumption) rfl ?hy0q1 ?rest0q1
  case hy0q1 => (intro wS hSw; (try dsimp only at hSw); go_simp; try with_reducible rfl)
  try simp only [Act.put, List.setIfInBounds_toArray, List.set_cons_zero, List.set_cons_succ]
  refine held_quiet 1 (v := ?v1q2) rfl (by kernel_rfl) (fun _ _ _ h => h) (by assumption) rfl ?hy1q2 ?rest1q2
  case hy1q2 => (intro wS hSw; (try dsimp only at hSw); go_simp; try with_reducible rfl)
  try simp only [Act.put, List.setIfInBounds_toArray, List.set_cons_zero, List.set_cons_succ]
  refine held_quiet 2 (v := ?v2q3) rfl (by kernel_rfl) (fun _ _ _ h => h) (by assumption) rfl ?hy2q3 ?rest2q3
  case hy2q3 => (intro wS hSw; (try dsimp only at hSw); go_simp; try with_reducible rfl)
  try simp only [Act.put, List.setIfInBounds_toArray, List.set_cons_zero, List.set_cons_succ]
  refine held_quiet 3 (v := ?v3q4) rfl (by kernel_rfl) (fun _ _ _ h => h) (by assumption) rfl ?hy3q4 ?rest3q4
  case hy3q4 => (intro wS hSw; (try dsimp only at hSw); go_simp; try with_reducible rfl)
  try simp only [Act.put, List.setIfInBounds_toArray, List.set_cons_zero, List.set_cons_succ]
  refine held_quiet 4 (v := ?v4q5) rfl (by kernel_rfl) (fun _ _ _ h => h) (by assumption) rfl ?hy4q5 ?rest4q5
  case hy4q5 => (intro wS hSw; (try dsimp only at hSw); go_simp; try with_reducible rfl)
  try simp only [Act.put, List.setIfInBounds_toArray, List.set_cons_zero, List.set_cons_succ]
  refine held_quiet 5 (v := ?v5q6) rfl (by kernel_rfl) (fun _ _ _ h => h) (by assumption) rfl ?hy5q6 ?rest5q6
  case hy5q6 => (intro wS hSw; (try dsimp only at hSw); go_simp; try with_reducible rfl)
  try simp only [Act.put, List.setIfInBounds_toArray, List.set_cons_zero, List.set_cons_succ]
  refine held_one 6 rfl (by kernel_rfl) ?_
  go_wp2_with (go_at_call 29; refine (filled_any s Hs.out _).mono ?_; rintro e w1 ⟨rfl, hb1⟩)
  have hB1 : Below w'.heap.size w' w1 := (Below.refl _ w').drew.trans hb1
  try refine ⟨CA.out w1 hB1, ?_⟩
  have hS : (fun W : World => W.cell? ⟨p, 0, none⟩ = some (.slice (some ⟨sb, 0, none⟩) n n)) w1 := CA.out w1 hB1
  rw [← HX.out]
  refine held_quiet 7 (v := ?v7q7) rfl (by kernel_rfl) (fun _ _ _ h => h) (by assumption) rfl ?hy7q7 ?rest7q7
  case hy7q7 => (intro wS hSw; (try dsimp only at hSw); go_simp; try with_reducible rfl)
  try simp only [Act.put, List.setIfInBounds_toArray, List.set_cons_zero, List.set_cons_succ]
  refine held_one 8 rfl (by kernel_rfl) ?_
  have hW1 : DrvIn w1 p sb pb mb hd D := HI.out.below hB1
  obtain ⟨cur, hcur, hcur2⟩ := hW1.safe
  have hcs : cur.size = D.safe.length * 64 := by rw [← Array.length_toList, hcur2, flat_length hW1.ok.sector]
  refine wpList_store_mid rfl 71 _ _ rfl sb (i * 64) (byteVals x).toArray rfl rfl (there_row hcur (by rw [show (byteVals x).toArray.size = 64 from (byteVals_length x).trans HXL.out, hcs]; have := Hi.out; omega)) XI.out (all_oneCell_toArray (byteVals_one x)) ?_
  have hD6 : DrvIn (w1.setCells sb (i * 64) (byteVals x)) p sb pb mb hd { D with safe := D.safe.set i x } := hW1.setSafe Hi.out HXL.out
  have hO6 : Only (One sb) w1 (w1.setCells sb (i * 64) (byteVals x)) := Only.setCells _ w1 sb _ _ rfl
  generalize e6 : w1.setCells sb (i * 64) (byteVals x) = w6 at hD6 hO6 ⊢
  have hl6 : (D.safe.set i x).length = n := by rw [List.length_set, HN.out]
  refine ⟨by have := hD6.cells.c0; rw [hl6] at this; exact this, ?_⟩
  refine held_done (by kernel_rfl) ?_
  obtain ⟨M, hM⟩ := hD6.map
  have HD6 : Hid (DrvIn w6 p sb pb mb hd { D with safe := D.safe.set i x }) := hD6
  have HM6 : Hid (MapIn w6 mb hd { D with safe := D.safe.set i x } M) := hM
  have HO6 : Hid (Only F w' w6) := (Only.of_below hB1 F).then (hO6.mono fun k hk => by rw [show k = sb from hk]; exact HF.out sb (.inr (.inl rfl)))
  have c2 := hD6.cells.c2
  have hown := hM.owns
  have HOWN : Hid _ := hown
  clear hD6 hO6 e6 hcur hcur2 hcs hl6 hW1 hB1 hb1 hM hown hS
  go_wp2_with (first
    | (at_delete; go_loud (refine wpList_delete_own _ rfl _ _ 53 3 rfl 51 (int_keyed Try.underlying3) Try.underlying53 hdrD mb (Maps.size M) M rfl HOWN.out (.int .i64 (i : Nat)) (keyL i) rfl (keyOf_at i (by omega)) ?_); intro w7 hown7 hg7))
  have hD7 := HD6.out.dropped HM6.out hown7 (Only.of_map hg7)
  have H7 : Hid (DriveAt w7 p (D.change i s.data.toList) F) := by
    refine ⟨sb, pb, mb, fun j => if j = i then .slice none 0 0 else hd j, ?_, fun k hk => ?_⟩
    · rw [← HX.out]; exact hD7
    · rcases hk with e | e | e | e | ⟨j, hj⟩
      · exact HF.out k (.inl e)
      · exact HF.out k (.inr (.inl e))
      · exact HF.out k (.inr (.inr (.inl e)))
      · exact HF.out k (.inr (.inr (.inr (.inl e))))
      · dsimp only at hj
        split at hj
        · simp [Value.ownBlock] at hj
        · exact HF.out k (.inr (.inr (.inr (.inr ⟨j, hj⟩))))
  have O7 : Hid (Only F w' w7) := HO6.out.then ((Only.of_map hg7).mono fun k hk => by rw [show k = mb from hk]; exact HF.out mb (.inr (.inr (.inr (.inl rfl)))))
  clear hD7 hown7 hg7
  go_wp2
  go_ret
  exact ⟨rfl, H7.out, O7.out⟩
theorem change_mine {w : World} {B p n : Nat} {D : Dr} (h : Mine w B p D) (hv : D.Live n) (i : Nat) (hi : i < n) (s : ByteArray) (hs : s.size = 64) :
    Calls Try.prog 18 #[.pointer (some ⟨p, 0, none⟩), .int .i64 (i : Nat), .string s] w fun e w' => e = .returned (.int .i64 0) ∧ Mine w' B p (D.change i s.data.toList) ∧ Below B w w' :=
  (change_yes h.1 i s (hv.take hi hs) (by rw [hv.len]; exact hi)).mono fun _ _ ⟨he, hd, ho⟩ => ⟨he, ⟨hd, Nat.le_trans h.2 ho.size⟩, turned ho h.2⟩
end Go.Proofs.Ytgkhnfchohcjeaa
