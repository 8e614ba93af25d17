/- The walks of the statements' own parts and theirs. -/
import Derived.Test.YtmikllmpinciiaaDoorRecRow
import Derived.Test.YtmikllmpinciiaaDoorRecFull
import Derived.OwnWalk
import Derived.Deep.Cut
namespace Go.Proofs.YtmikllmpinciiaaDoor
open Go.RowKit

theorem info_part12b : (Tryd.prog.info? 67).map (fun i => (i.zero, i.size, i.bytes)) = some (some (.agg #[.int .i64 0, .int .i64 0, .string ByteArray.empty]), 3, 32) := by kernel_rfl

set_option maxRecDepth 100000 in
set_option maxHeartbeats 4000000 in
theorem parts12_any (seq row : Int) (a : Option Addr) (n cap : Nat) (f : Nat → Prt) (w : World) (hn : n * 16 ≤ 140737488355328) (hp : PartsR w a n f) :
    Calls Tryd.prog 8 #[.agg #[.int .u64 seq, .int .i64 row, .slice a n cap]] w fun e w' => ∃ a' cap', e = .returned (.slice a' n cap') ∧ RowS w' a' n (fun j => (f j).data) ∧ n ≤ cap' ∧ Below w.heap.size w w' := by
  have hmx : Tryd.prog.follows .mixedOrders = true := by kernel_rfl
  have HMX : Hid (Tryd.prog.follows .mixedOrders = true) := hmx
  obtain ⟨i0, hi, hz0, hz1, hz2⟩ := info_parts info_str
  obtain ⟨W0, hW0⟩ : ∃ W0, W0 = w.alloc (.cells #[.int .u64 seq, .int .i64 row, .slice a n cap] 25) := ⟨_, rfl⟩
  have hW0' := hW0.symm
  have hx : BoxAt W0 w.heap.size (.int .u64 seq) (.int .i64 row) (.slice a n cap) := by rw [hW0]; exact BoxAt.new _ _ _ _ _
  have hb : Below w.heap.size w W0 := by rw [hW0]; exact (Below.refl _ w).alloc (Nat.le_refl _) _
  have HB0 : Hid (Below w.heap.size w W0) := hb
  have HX0 : Hid (BoxAt W0 w.heap.size (.int .u64 seq) (.int .i64 row) (.slice a n cap)) := hx
  have HP0 : Hid (PartsR W0 a n f) := hp.below hb
  clear hx hb hp hmx hW0
  go_enter Tryd.func8, Tryd.ntmps8
  obtain ⟨x0, x1, x2, _, _, _⟩ := HX0.out
  go_upto_region 1 with fail
  clear hW0' x0 x1 x2
  go_wp2
  go_loopg [3, 4] n (fun gg v i wr => ∃ (k : Nat) (u : Value), k ≤ n ∧ gg = n - k ∧ u = v ∧ i = .int .i64 (k : Int) ∧ wr.ownsRow W0.heap.size 9 1 u k (textVals k fun j => (f j).data) ∧ Below W0.heap.size W0 wr)
  case atStart =>
    refine ⟨0, _, Nat.zero_le _, rfl, rfl, rfl, ?_, (Below.refl _ W0).alloc (Nat.le_refl _) _⟩
    exact World.ownsRow_lit (base := W0.heap.size) (e := 9) (size := 1) W0 #[] 0 (Nat.le_refl _) (by decide) rfl
  case round =>
  obtain ⟨k, u, hk, rfl, rfl, rfl, hown, hb⟩ := hrel
  have HB : Hid (Below W0.heap.size W0 wr) := hb
  have OWN : Hid (wr.ownsRow W0.heap.size 9 1 u k (textVals k fun j => (f j).data)) := hown
  have hsz := hb.size
  obtain ⟨_, _, x2, _, _, _⟩ := HX0.out.below hb HX0.out.lt
  clear hb hown
  by_cases hlt : k < n
  case neg =>
    have hkn : k = n := by omega
    subst hkn
    obtain ⟨a', cap', rfl, hrs, hcap, _⟩ := RowS.of_owns OWN.out
    have HRS : Hid (RowS wr a' k fun j => (f j).data) := hrs
    have HC : Hid (k ≤ cap') := hcap
    clear hlt hk hrs hcap
    go_wp2
    go_ret
    exact ⟨a', cap', rfl, HRS.out, HC.out, HB0.out.trans (HB.out.mono HB0.out.size)⟩
  case pos =>
  have hki : (k : Int) < (n : Int) := by omega
  obtain ⟨b, o, rfl, hpk⟩ := HP0.out k hlt
  have c2 := (hpk.below HB.out hpk.lt).c2
  obtain ⟨s, hs⟩ : ∃ s, s = (f k).data := ⟨_, rfl⟩
  rw [← hs] at c2
  have HS : Hid (s = (f k).data) := hs
  have HPL : Hid (b < W0.heap.size ∧ w.heap.size < W0.heap.size) := ⟨hpk.lt, HX0.out.lt⟩
  clear hpk hs
  have t1 : True := trivial
  go_wp2_with (first | (at_builtin; go_loud (have _t := t1; refine wpList_append_own _ rfl _ _ 26 rfl W0.heap.size 9 i0 (.string ByteArray.empty) 1 16 Tryd.underlying26 hi hz0 hz1 hz2 rfl (by decide) u k (textVals k fun j => (f j).data) rfl (OWN.out.alloc _) ⟨wr.heap.size, 0, none⟩ 1 1 [.string s] rfl rfl (cell_one_new _ _ _) (by simp [Value.oneCell']) (by unfold maxLen; omega) (by omega) (by simp; omega) ?_; intro v' w4 hown' hgrow _; obtain ⟨g', cap', rfl⟩ := ownsRow_succ hown'; have b4 := below_append OWN.out hsz hgrow; have HB4 : Hid (Below W0.heap.size wr w4) := b4; have OWN4 : Hid (w4.ownsRow W0.heap.size 9 1 (.slice (some ⟨g', 0, none⟩) (k + 1) cap') (k + 1) (textVals (k + 1) fun j => (f j).data)) := (by show World.ownsRow _ _ _ _ _ _ _; rw [← textVals_snoc, ← HS.out]; exact hown'); clear b4 hown' hgrow x2 c2 t1)))
  go_roundg (n - (k + 1))
  case measure => omega
  case rel => exact ⟨k + 1, _, by omega, rfl, rfl, by go_num, OWN4.out, HB.out.trans HB4.out⟩
end Go.Proofs.YtmikllmpinciiaaDoor
