/- Several texts in one. The walk of the document's own Crash, by any list. The walk of the document's own New, at any number of sectors. -/
import Derived.Test.YtjmeiifogblmoaaGreatDoorMRefB
import Derived.Test.YtjmeiifogblmoaaGreatDoorMRefA
namespace Go.Proofs.YtjmeiifogblmoaaGreatDoor
open Go.RowKit Go.Maps

namespace Dr
/-- how many of the first k sectors have writes -/
def rank (R : Dr) : Nat → Nat
  | 0 => 0
  | k + 1 => R.rank k + (if R.writes k = [] then 0 else 1)
theorem rank_le (R : Dr) : ∀ k, R.rank k ≤ k
  | 0 => Nat.le_refl _
  | k + 1 => by have := rank_le R k; unfold rank; split <;> omega
theorem rank_len (R : Dr) : ∀ n, ((List.range n).filter fun i => !(R.writes i).isEmpty).length = R.rank n
  | 0 => rfl
  | n + 1 => by
    rw [List.range_succ, List.filter_append, List.length_append, rank_len R n]
    show _ = R.rank n + (if R.writes n = [] then 0 else 1)
    by_cases e : R.writes n = []
    · simp [e]
    · simp [e]
theorem rank_at (R : Dr) : ∀ {n j : Nat} (h : j < ((List.range n).filter fun i => !(R.writes i).isEmpty).length), R.rank (((List.range n).filter fun i => !(R.writes i).isEmpty)[j]) = j
  | 0, _, h => absurd h (Nat.not_lt_zero _)
  | n + 1, j, h => by
    have key : ∀ x, ((List.range (n + 1)).filter fun i => !(R.writes i).isEmpty)[j]? = some x → R.rank x = j := fun x hx => by
      rw [List.range_succ, List.filter_append] at hx
      by_cases hj : j < ((List.range n).filter fun i => !(R.writes i).isEmpty).length
      · rw [List.getElem?_append_left hj, List.getElem?_eq_getElem hj] at hx
        injection hx with hx
        rw [← hx]
        exact rank_at R hj
      · rw [List.getElem?_append_right (by omega), rank_len] at hx
        rw [rank_len] at hj
        by_cases e : R.writes n = []
        · simp [e] at hx
        · have h1 : ([n].filter fun i => !(R.writes i).isEmpty) = [n] := by simp [e]
          rw [h1] at hx
          have h2 : j - R.rank n = 0 := by
            refine Decidable.byContradiction fun h0 => ?_
            rw [List.getElem?_eq_none (by simp; omega)] at hx
            cases hx
          rw [h2] at hx
          injection hx with hx
          rw [← hx]
          omega
    exact key _ (List.getElem?_eq_getElem h)
theorem busy_rank {R : Dr} {i j : Nat} (hj : j < R.busy.length) (e : R.busy.getD j 0 = i) : R.rank i = j := by
  rw [← e, List.getD_eq_getElem?_getD, List.getElem?_eq_getElem hj]
  exact rank_at R hj
/-- all sectors, one behind the other, is all at once -/
theorem keptTo_all2 {R : Dr} (ok : R.Ok) (C : Nat → Nat) (K : Nat → Nat → Nat) (hK : ∀ i, i < R.safe.length → R.writes i ≠ [] → K (R.rank i) (R.writes i).length = C i) (h0 : ∀ i, R.writes i = [] → C i = 0) : R.keptTo C R.safe.length = R.settle K := by
  have hs : (R.keptTo C R.safe.length).safe = (R.settle K).safe := by
    have l1 := keptTo_len R C R.safe.length
    have l2 : (R.settle K).safe.length = R.safe.length := safeAt_length R K _
    refine List.ext_getElem (l1.trans l2.symm) fun i a b => ?_
    rw [l1] at a
    have e := keptTo_safe R C R.safe.length i a
    rw [if_pos a] at e
    have e2 : (R.settle K).safe.getD i [] = if 0 < C i then (R.writes i).getD (C i - 1) [] else R.safe.getD i [] := by
      by_cases hw : R.writes i = []
      · rw [settle_idle K a hw, h0 i hw, if_neg (Nat.lt_irrefl _)]
      · obtain ⟨j, hj, hjl, hjs⟩ := settle_busy K a hw
        rw [hjs, ← busy_rank hjl hj, hK i a hw]
    have := e.trans e2.symm
    rw [List.getD_eq_getElem?_getD, List.getD_eq_getElem?_getD, List.getElem?_eq_getElem (by rw [l1]; exact a), List.getElem?_eq_getElem (by rw [l2]; exact a)] at this
    exact this
  have hw : (R.keptTo C R.safe.length).writes = fun _ => [] := by
    funext j
    rw [keptTo_writes]
    split
    · rfl
    · exact ok.out j (by omega)
  obtain ⟨r1, r2, r3, r4⟩ := keptTo_rest R C R.safe.length
  have e : ∀ A B : Dr, A.safe = B.safe → A.spoilt = B.spoilt → A.writes = B.writes → A.dead = B.dead → A.goes = B.goes → A.left = B.left → A = B := fun A B => by cases A; cases B; simp only [Dr.mk.injEq]; exact fun a b c d e f => ⟨a, b, c, d, e, f⟩
  exact e _ _ hs r4 hw r1 r2 r3
/-- of each sector as many as the list keeps of them -/
def keepL (R : Dr) (keep : List Nat) (i : Nat) : Nat := if R.writes i = [] then 0 else keeps keep (R.rank i) (R.writes i).length
theorem keepL_le (R : Dr) (keep : List Nat) (i : Nat) : R.keepL keep i ≤ (R.writes i).length := by
  unfold keepL; split
  · exact Nat.zero_le _
  · exact keeps_le _ _ _
theorem crash_list {R : Dr} (ok : R.Ok) (hg : R.goes = false) (hl : R.left = 0) (keep : List Nat) : R.keptTo (R.keepL keep) R.safe.length = R.crash keep := by
  rw [keptTo_all2 ok (R.keepL keep) (keeps keep) (fun i _ hw => by unfold keepL; rw [if_neg hw]) (fun i h => if_pos h)]
  exact (settle_power (keeps keep) hg hl).symm
end Dr
section
variable {w w' : World} {rp : Nat} {R : Dr} {G : Nat → Prop}
set_option maxRecDepth 100000 in
set_option maxHeartbeats 4000000 in
theorem rCrash_nil (h : RefAt w rp R G) (hg : R.goes = false) (hlf : R.left = 0) (hlen : ∀ i, (R.writes i).length ≤ 1000000) (keep : List Nat) (a : Option Addr) (cap : Nat) (hI : RowI .u8 w a keep.length (fun j => ((keep.getD j 0 : Nat) : Int))) (_hkl : keep.length ≤ 1000000) (hb : ∀ j, keep.getD j 0 < 256)
    (hna : 0 < keep.length → ∀ x, a = some x → ¬ G x.block) (hk0 : keep.length = 0) :
    Calls Tryz.prog 19 #[.pointer (some ⟨rp, 0, none⟩), .slice a keep.length cap] w fun e w' => e = .returned (.tuple #[]) ∧ RefAt w' rp (R.crash keep) G ∧ Only G w w' := by
  obtain ⟨c3, c4, f3, f4⟩ := h.flags
  have hp := h.power hg
  have HP : Hid _ := hp
  have HK : Hid (∀ W, Only G w W → ∀ j, j < keep.length → ∃ b off, a = some ⟨b, off, none⟩ ∧ W.cell? ⟨b, off + j, none⟩ = some (.int .u8 (keep.getD j 0 : Nat))) := fun W ho j hj => by
    obtain ⟨b, off, e, hc⟩ := hI j hj
    exact ⟨b, off, e, (World.cell?_of_block (a := ⟨b, off + j, none⟩) (ho.block b (World.block_lt_of_cell? w _ hc) (hna (by omega) _ e))).trans hc⟩
  have HL : Hid (∀ i, (R.writes i).length ≤ 1000000) := hlen
  have hn4 := h.ok.le
  obtain ⟨n, hn⟩ : ∃ n, n = R.safe.length := ⟨_, rfl⟩
  rw [← hn] at hn4
  have HN : Hid (n = R.safe.length) := hn
  have HS : Hid (R.keptTo (R.keepL keep) n = R.crash keep) := by
    unfold Hid
    rw [hn]
    exact Dr.crash_list h.ok hg hlf keep
  have HL0 : Hid (keep.length = 0) := hk0
  rw [hk0] at HK ⊢
  have HB : Hid (∀ j, keep.getD j 0 < 256) := hb
  obtain ⟨w1, hw1⟩ : ∃ w1, w1 = w.setCell ⟨rp, 4, none⟩ (.bool false) := ⟨_, rfl⟩
  have HP1 : Hid (RefAt w1 rp R G ∧ Only G w w1) := by rw [hw1]; exact HP.out
  clear h hg hlen hn hp HP hI hna hb hk0 hlf HK
  go_enter Tryz.func19, Tryz.ntmps19
  go_wp2
  rw [← hw1]
  go_loopg [4, 5] n (fun gg kk i wr => ∃ (k : Nat), k ≤ n ∧ gg = n - k ∧ kk = .int .i64 (R.rank k : Nat) ∧ i = .int .i64 k ∧ RefAt wr rp (R.keptTo (R.keepL keep) k) G ∧ Only G w wr)
  case atStart => exact ⟨0, Nat.zero_le _, rfl, rfl, rfl, HP1.out.1, HP1.out.2⟩
  case round =>
    obtain ⟨k, hk, rfl, rfl, rfl, hR, hO⟩ := hrel
    by_cases hlt : k < n
    · obtain ⟨gw, cw, a', cap', q1, q2, q3, q4⟩ := hR.row (i := k) (by rw [Dr.keptTo_len, ← HN.out]; exact hlt)
      have hkeep := rKeep_any hR k (by rw [Dr.keptTo_len, ← HN.out]; exact hlt) (R.keepL keep k) (by rw [Dr.keptTo_writes, if_neg (Nat.lt_irrefl _)]; exact Dr.keepL_le _ _ _)
      rw [Dr.keptTo_len, ← HN.out] at q1 q2
      rw [Dr.keptTo_writes, if_neg (Nat.lt_irrefl _)] at q4
      have hl := HL.out k
      unfold maxLen at q3
      have HO : Hid (Only G w wr) := hO
      have HR : Hid (RefAt wr rp (R.keptTo (R.keepL keep) k) G) := hR
      have hrk := R.rank_le k
      have hrs : R.rank (k + 1) = R.rank k + (if R.writes k = [] then 0 else 1) := rfl
      obtain ⟨q, hq⟩ : ∃ q, q = R.rank k := ⟨_, rfl⟩
      by_cases hw : R.writes k = []
      · rw [hw] at q4
        simp only [List.length_nil] at q4
        have e : (R.keptTo (R.keepL keep) (k + 1)) = R.keptTo (R.keepL keep) k := by
          show (R.keptTo (R.keepL keep) k).kept k (R.keepL keep k) = _
          rw [show R.keepL keep k = 0 from if_pos hw]
          exact Dr.kept_nothing (by rw [Dr.keptTo_writes, if_neg (Nat.lt_irrefl _)]; exact hw)
        have HR2 : Hid (RefAt wr rp (R.keptTo (R.keepL keep) (k + 1)) G) := by unfold Hid; rw [e]; exact hR
        have HQ : Hid (R.rank (k + 1) = q) := by show _ = _; rw [hrs, if_pos hw, hq]; rfl
        rw [← hq]
        clear hR hO e hkeep hw hl hrk hrs hq
        go_wp2
        go_roundg (n - (k + 1))
        case measure => omega
        case rel => exact ⟨k + 1, by omega, rfl, by rw [HQ.out], by go_num, HR2.out, HO.out⟩
      · have hpos := List.length_pos_iff.2 hw
        have hC : R.keepL keep k = Dr.keeps keep q (R.writes k).length := by rw [hq]; exact if_neg hw
        have HQ : Hid (R.rank (k + 1) = q + 1) := by show _ = _; rw [hrs, if_neg hw, hq]
        rw [← hq] at hrk ⊢
        obtain ⟨m, em⟩ : ∃ m, m = (R.writes k).length := ⟨_, rfl⟩
        rw [← em] at q4 hl hpos hC
        have hm0 : ((m : Int) == 0) = false := by rw [beq_eq_false_iff_ne]; omega
        have hmw : IntKind.i64.wrap ((m : Int) + 1) = ((m + 1 : Nat) : Int) := by rw [IntKind.wrap_i64]; omega
        obtain ⟨c, ec⟩ : ∃ c, c = R.keepL keep k := ⟨_, rfl⟩
        have HC : Hid (R.keepL keep k = c) := ec.symm
        rw [← ec] at hkeep hC
        have hc0 : c = 0 := by rw [hC]; unfold Dr.keeps; rw [if_pos HL0.out]
        rw [hc0] at hkeep
        clear hR hO hC em hw ec hrs hq
        go_wp2_with fail
        refine hkeep.mono ?_
        rintro e w' ⟨rfl, hR', hO'⟩
        rw [← hc0, ← HC.out] at hR'
        have RR : Hid (RefAt w' rp (R.keptTo (R.keepL keep) (k + 1)) G ∧ Only G w w') := ⟨hR', HO.out.then hO'⟩
        clear hR' hO' hkeep
        go_wp2
        go_roundg (n - (k + 1))
        case measure => omega
        case rel => exact ⟨k + 1, by omega, rfl, by rw [HQ.out]; go_num, by go_num, RR.out⟩
    · have hkn : k = n := by omega
      subst hkn
      obtain ⟨gw, cw, q1⟩ := hR.head
      rw [Dr.keptTo_len, ← HN.out] at q1
      rw [HS.out] at hR
      have RR : Hid (RefAt wr rp (R.crash keep) G ∧ Only G w wr) := ⟨hR, hO⟩
      clear hR hO
      go_wp2
      go_end0
      exact ⟨rfl, RR.out⟩
set_option maxRecDepth 100000 in
set_option maxHeartbeats 4000000 in
theorem rCrash_some (h : RefAt w rp R G) (hg : R.goes = false) (hlf : R.left = 0) (hlen : ∀ i, (R.writes i).length ≤ 1000000) (keep : List Nat) (a : Option Addr) (cap : Nat) (hI : RowI .u8 w a keep.length (fun j => ((keep.getD j 0 : Nat) : Int))) (hkl : keep.length ≤ 1000000) (hb : ∀ j, keep.getD j 0 < 256)
    (hna : 0 < keep.length → ∀ x, a = some x → ¬ G x.block) (hk0 : 0 < keep.length) :
    Calls Tryz.prog 19 #[.pointer (some ⟨rp, 0, none⟩), .slice a keep.length cap] w fun e w' => e = .returned (.tuple #[]) ∧ RefAt w' rp (R.crash keep) G ∧ Only G w w' := by
  obtain ⟨c3, c4, f3, f4⟩ := h.flags
  have hp := h.power hg
  have HP : Hid _ := hp
  have HK : Hid (∀ W, Only G w W → ∀ j, j < keep.length → ∃ b off, a = some ⟨b, off, none⟩ ∧ W.cell? ⟨b, off + j, none⟩ = some (.int .u8 (keep.getD j 0 : Nat))) := fun W ho j hj => by
    obtain ⟨b, off, e, hc⟩ := hI j hj
    exact ⟨b, off, e, (World.cell?_of_block (a := ⟨b, off + j, none⟩) (ho.block b (World.block_lt_of_cell? w _ hc) (hna (by omega) _ e))).trans hc⟩
  have HL : Hid (∀ i, (R.writes i).length ≤ 1000000) := hlen
  have hn4 := h.ok.le
  obtain ⟨n, hn⟩ : ∃ n, n = R.safe.length := ⟨_, rfl⟩
  rw [← hn] at hn4
  have HN : Hid (n = R.safe.length) := hn
  have HS : Hid (R.keptTo (R.keepL keep) n = R.crash keep) := by
    unfold Hid
    rw [hn]
    exact Dr.crash_list h.ok hg hlf keep
  obtain ⟨L, hLk⟩ : ∃ L, L = keep.length := ⟨_, rfl⟩
  have HLk : Hid (L = keep.length) := hLk
  rw [← hLk] at hkl HK hk0 ⊢
  have HB : Hid (∀ j, keep.getD j 0 < 256) := hb
  obtain ⟨w1, hw1⟩ : ∃ w1, w1 = w.setCell ⟨rp, 4, none⟩ (.bool false) := ⟨_, rfl⟩
  have HP1 : Hid (RefAt w1 rp R G ∧ Only G w w1) := by rw [hw1]; exact HP.out
  clear h hg hlen hn hp HP hI hna hb hLk hlf
  go_enter Tryz.func19, Tryz.ntmps19
  go_wp2
  rw [← hw1]
  go_loopg [4, 5] n (fun gg kk i wr => ∃ (k : Nat), k ≤ n ∧ gg = n - k ∧ kk = .int .i64 (R.rank k : Nat) ∧ i = .int .i64 k ∧ RefAt wr rp (R.keptTo (R.keepL keep) k) G ∧ Only G w wr)
  case atStart => exact ⟨0, Nat.zero_le _, rfl, rfl, rfl, HP1.out.1, HP1.out.2⟩
  case round =>
    obtain ⟨k, hk, rfl, rfl, rfl, hR, hO⟩ := hrel
    by_cases hlt : k < n
    · obtain ⟨gw, cw, a', cap', q1, q2, q3, q4⟩ := hR.row (i := k) (by rw [Dr.keptTo_len, ← HN.out]; exact hlt)
      have hkeep := rKeep_any hR k (by rw [Dr.keptTo_len, ← HN.out]; exact hlt) (R.keepL keep k) (by rw [Dr.keptTo_writes, if_neg (Nat.lt_irrefl _)]; exact Dr.keepL_le _ _ _)
      rw [Dr.keptTo_len, ← HN.out] at q1 q2
      rw [Dr.keptTo_writes, if_neg (Nat.lt_irrefl _)] at q4
      have hl := HL.out k
      have hkc := HK.out wr hO
      unfold maxLen at q3
      have HO : Hid (Only G w wr) := hO
      have HR : Hid (RefAt wr rp (R.keptTo (R.keepL keep) k) G) := hR
      have hrk := R.rank_le k
      have hrs : R.rank (k + 1) = R.rank k + (if R.writes k = [] then 0 else 1) := rfl
      obtain ⟨q, hq⟩ : ∃ q, q = R.rank k := ⟨_, rfl⟩
      by_cases hw : R.writes k = []
      · rw [hw] at q4
        simp only [List.length_nil] at q4
        have e : (R.keptTo (R.keepL keep) (k + 1)) = R.keptTo (R.keepL keep) k := by
          show (R.keptTo (R.keepL keep) k).kept k (R.keepL keep k) = _
          rw [show R.keepL keep k = 0 from if_pos hw]
          exact Dr.kept_nothing (by rw [Dr.keptTo_writes, if_neg (Nat.lt_irrefl _)]; exact hw)
        have HR2 : Hid (RefAt wr rp (R.keptTo (R.keepL keep) (k + 1)) G) := by unfold Hid; rw [e]; exact hR
        have HQ : Hid (R.rank (k + 1) = q) := by show _ = _; rw [hrs, if_pos hw, hq]; rfl
        rw [← hq]
        clear hR hO e hkeep hw hl hkc hrk hrs hq
        go_wp2
        go_roundg (n - (k + 1))
        case measure => omega
        case rel => exact ⟨k + 1, by omega, rfl, by rw [HQ.out], by go_num, HR2.out, HO.out⟩
      · have hpos := List.length_pos_iff.2 hw
        have hC : R.keepL keep k = Dr.keeps keep q (R.writes k).length := by rw [hq]; exact if_neg hw
        have HQ : Hid (R.rank (k + 1) = q + 1) := by show _ = _; rw [hrs, if_neg hw, hq]
        rw [← hq] at hrk ⊢
        obtain ⟨m, em⟩ : ∃ m, m = (R.writes k).length := ⟨_, rfl⟩
        rw [← em] at q4 hl hpos hC
        have hm0 : ((m : Int) == 0) = false := by rw [beq_eq_false_iff_ne]; omega
        have hmw : IntKind.i64.wrap ((m : Int) + 1) = ((m + 1 : Nat) : Int) := by rw [IntKind.wrap_i64]; omega
        obtain ⟨c, ec⟩ : ∃ c, c = R.keepL keep k := ⟨_, rfl⟩
        have HC : Hid (R.keepL keep k = c) := ec.symm
        rw [← ec] at hkeep hC
        obtain ⟨r, hr⟩ : ∃ r, r = q % L := ⟨_, rfl⟩
        have hrL : r < L := by rw [hr]; exact Nat.mod_lt _ (by omega)
        obtain ⟨kb, ko, rfl, hcell⟩ := hkc r hrL
        have hx8 := HB.out r
        obtain ⟨x, hx⟩ : ∃ x, x = keep.getD r 0 := ⟨_, rfl⟩
        rw [← hx] at hcell hx8
        have hcx : c = x % (m + 1) := by
          rw [hC]; unfold Dr.keeps; rw [if_neg (by rw [← HLk.out]; omega), ← HLk.out, ← hr, ← hx]
        have hgt : (0 : Int) < (L : Int) := by omega
        have hL0' : ((L : Int) == 0) = false := by rw [beq_eq_false_iff_ne]; omega
        have hri : (r : Int) < (L : Int) := by omega
        have hq1 : (q : Int) % (L : Int) = (r : Int) := by rw [hr]; omega
        have hq2 : (q : Int).tmod (L : Int) = (r : Int) := by rw [Int.tmod_eq_emod_of_nonneg (by omega)]; exact hq1
        have hci : (x : Int) % ((m + 1 : Nat) : Int) = (c : Int) := by rw [hcx]; omega
        have hct : (x : Int).tmod ((m + 1 : Nat) : Int) = (c : Int) := by rw [Int.tmod_eq_emod_of_nonneg (by omega)]; exact hci
        have hci2 : (x : Int) % ((m : Int) + 1) = (c : Int) := by rw [← hci]; rfl
        have hct2 : (x : Int).tmod ((m : Int) + 1) = (c : Int) := by rw [← hct]; rfl
        clear hR hO hC em hw ec hkc hrs hq hr hx hcx
        go_wp2_with fail
        refine hkeep.mono ?_
        rintro e w' ⟨rfl, hR', hO'⟩
        rw [← HC.out] at hR'
        have RR : Hid (RefAt w' rp (R.keptTo (R.keepL keep) (k + 1)) G ∧ Only G w w') := ⟨hR', HO.out.then hO'⟩
        clear hR' hO' hkeep hcell hq1 hq2 hci hct hci2 hct2
        go_wp2
        go_roundg (n - (k + 1))
        case measure => omega
        case rel => exact ⟨k + 1, by omega, rfl, by rw [HQ.out]; go_num, by go_num, RR.out⟩
    · have hkn : k = n := by omega
      subst hkn
      obtain ⟨gw, cw, q1⟩ := hR.head
      rw [Dr.keptTo_len, ← HN.out] at q1
      rw [HS.out] at hR
      have RR : Hid (RefAt wr rp (R.crash keep) G ∧ Only G w wr) := ⟨hR, hO⟩
      clear hR hO
      go_wp2
      go_end0
      exact ⟨rfl, RR.out⟩
/-- the document's own Crash -/
theorem rCrash_any (h : RefAt w rp R G) (hg : R.goes = false) (hlf : R.left = 0) (hlen : ∀ i, (R.writes i).length ≤ 1000000) (keep : List Nat) (a : Option Addr) (cap : Nat) (hI : RowI .u8 w a keep.length (fun j => ((keep.getD j 0 : Nat) : Int))) (hkl : keep.length ≤ 1000000) (hb : ∀ j, keep.getD j 0 < 256)
    (hna : 0 < keep.length → ∀ x, a = some x → ¬ G x.block) :
    Calls Tryz.prog 19 #[.pointer (some ⟨rp, 0, none⟩), .slice a keep.length cap] w fun e w' => e = .returned (.tuple #[]) ∧ RefAt w' rp (R.crash keep) G ∧ Only G w w' := by
  by_cases h0 : keep.length = 0
  · exact rCrash_nil h hg hlf hlen keep a cap hI hkl hb hna h0
  · exact rCrash_some h hg hlf hlen keep a cap hI hkl hb hna (by omega)
end
end Go.Proofs.YtjmeiifogblmoaaGreatDoor

namespace Go.Proofs.YtjmeiifogblmoaaGreatDoor
open Go.RowKit Go.Maps

set_option maxRecDepth 100000 in
set_option maxHeartbeats 2000000 in
theorem refNewN (n : Nat) (h1 : 1 ≤ n) (h2 : n ≤ 4096) (w : World) : Calls Tryz.prog 11 #[.int .i64 (n : Nat)] w fun e w' => ∃ rp vS vW vP, e = .returned (.pointer (some ⟨rp, 0, none⟩)) ∧
    RefIn w' w.heap.size rp vS vW vP (List.replicate n blankB) (List.replicate n nilS) (List.replicate n false) false false 0 ∧ Below w.heap.size w w' := by
  have g1 : ¬ (n : Int) < 1 := by omega
  have g2 : ¬ (4096 : Int) < (n : Int) := by omega
  obtain ⟨iS, hS0, hS1, hS2, hS3⟩ := info_parts info_str
  obtain ⟨iW, hW0, hW1, hW2', hW3⟩ := info_parts info_strs
  obtain ⟨iP, hP0, hP1, hP2, hP3⟩ := info_parts info_bool3
  have hbl := blank_any
  obtain ⟨bk, ebk⟩ : ∃ bk, bk = blankB := ⟨_, rfl⟩
  rw [← ebk] at hbl ⊢
  clear ebk
  go_enter Tryz.func11, Tryz.ntmps11
  go_wp2_with (go_at_call 40; refine (hbl _).mono ?_; rintro e w' ⟨rfl, rfl⟩)
  go_loopg [5] n (fun g i wr => ∃ (k : Nat) (vS vW vP : Value), k ≤ n ∧ g = n - k ∧ i = .int .i64 k ∧ RefIn wr w.heap.size w.heap.size vS vW vP (List.replicate k bk) (List.replicate k nilS) (List.replicate k false) false false 0 ∧ Below w.heap.size w wr)
  case atStart =>
    refine ⟨0, .slice none 0 0, .slice none 0 0, .slice none 0 0, Nat.zero_le _, rfl, rfl, ⟨heap_alloc_last w _, Nat.le_refl _, World.ownsRow_nil _ _ _ _, World.ownsRow_nil _ _ _ _, World.ownsRow_nil _ _ _ _⟩, (Below.refl _ _).alloc (Nat.le_refl _) _⟩
  case round =>
    obtain ⟨k, vS, vW, vP, hk, rfl, rfl, hR, hb⟩ := hrel
    have R : Hid (RefIn wr w.heap.size w.heap.size vS vW vP (List.replicate k bk) (List.replicate k nilS) (List.replicate k false) false false 0) := hR
    have HB : Hid (Below w.heap.size w wr) := hb
    obtain ⟨c0, c1, c2, c3, c4, c5, cf⟩ := hR.cell
    have hlen : ∀ (α : Type) (x : α), (List.replicate k x).length = k := fun _ _ => List.length_replicate
    clear hR hb
    by_cases hlt : k < n
    · have hki : (k : Int) < (n : Int) := by omega
      have t1 : True := trivial
      have OS : Hid (wr.ownsRow w.heap.size 9 1 vS k ((List.replicate k bk).map Value.string)) := by have := R.out.safes; rwa [List.length_replicate] at this
      go_wp2_with (first
        | (at_builtin; have _t := t1; refine wpList_append_own _ rfl _ _ 42 rfl w.heap.size 9 iS (.string ByteArray.empty) 1 16 Tryz.underlying42 hS0 hS1 hS2 hS3 rfl (by decide) vS k ((List.replicate k bk).map Value.string) rfl (OS.out.alloc _) ⟨wr.heap.size, 0, none⟩ 1 1 [.string bk] rfl rfl (cell_one_new _ _ _) (by simp [Value.oneCell']) (by unfold maxLen; omega) (by omega) (by simp; have := HB.out.size; omega) ?_; intro v1 w1 hown1 hgrow1 _; obtain ⟨g1, p1, rfl⟩ := ownsRow_succ hown1; obtain ⟨R2, hr1⟩ := R.out.grow0 (x := bk) (by rw [List.length_replicate]; exact hown1) hgrow1; have RR2 : Hid (RefIn (w1.setCell ⟨w.heap.size, 0, none⟩ (.slice (some ⟨g1, 0, none⟩) (k + 1) p1)) w.heap.size w.heap.size (.slice (some ⟨g1, 0, none⟩) (k + 1) p1) vW vP (List.replicate k bk ++ [bk]) (List.replicate k nilS) (List.replicate k false) false false 0) := R2; have BB1 : Hid (Below w.heap.size w w1) := (HB.out.alloc HB.out.size _).grown hgrow1 (by simp; have := HB.out.size; omega) (fun j hj => (OS.out.lt j hj).1); have a0 := (World.cell?_of_block (a := ⟨w.heap.size, 0, none⟩) hr1).trans c0; have a1 := (World.cell?_of_block (a := ⟨w.heap.size, 1, none⟩) hr1).trans c1; have a2 := (World.cell?_of_block (a := ⟨w.heap.size, 2, none⟩) hr1).trans c2; have af : ∀ j, w1.frozen? ⟨w.heap.size, j, none⟩ = false := (fun j => (World.frozen?_of_block (a := ⟨w.heap.size, j, none⟩) hr1).trans (cf j)); have t2 : True := trivial; clear t1 R2 hown1 hgrow1 hr1)
        | (at_builtin; have _t := t2; generalize hW2 : World.setCell w1 _ _ = w2 at RR2 ⊢; have hz2 : w2.heap.size = w1.heap.size := (by rw [← hW2]; simp [World.setCell]); have BB2 : Hid (Below w.heap.size w w2) := (by unfold Hid; rw [← hW2]; exact BB1.out.setCell (p := ⟨w.heap.size, 0, none⟩) (Nat.le_refl _) _); have OW : Hid (w2.ownsRow w.heap.size 42 1 vW k (List.replicate k nilS)) := (by have := RR2.out.writes; rwa [List.length_replicate] at this); have CN : Hid (∀ j u, [nilS][j]? = some u → (w2.alloc (.cells #[nilS] 42)).cell? ((⟨w1.heap.size, 0, none⟩ : Addr).add j) = some u) := (by have := cell_one_new w2 nilS 42; rwa [hz2] at this); refine wpList_append_own _ rfl _ _ 51 rfl w.heap.size 42 iW (.slice none 0 0) 1 24 Tryz.underlying51 hW0 hW1 hW2' hW3 rfl (by decide) vW k (List.replicate k nilS) rfl (OW.out.alloc _) ⟨w1.heap.size, 0, none⟩ 1 1 [nilS] rfl rfl CN.out (by simp [Value.oneCell', nilS]) (by unfold maxLen; omega) (by omega) (by simp; have := BB2.out.size; omega) ?_; intro v2 w3 hown3 hgrow3 _; obtain ⟨g2, p2, rfl⟩ := ownsRow_succ hown3; obtain ⟨R3, hr3⟩ := RR2.out.grow1 (x := nilS) (by rw [List.length_replicate]; exact hown3) hgrow3; have RR3 : Hid (RefIn (w3.setCell ⟨w.heap.size, 1, none⟩ (.slice (some ⟨g2, 0, none⟩) (k + 1) p2)) w.heap.size w.heap.size (.slice (some ⟨g1, 0, none⟩) (k + 1) p1) (.slice (some ⟨g2, 0, none⟩) (k + 1) p2) vP (List.replicate k bk ++ [bk]) (List.replicate k nilS ++ [nilS]) (List.replicate k false) false false 0) := R3; have BB3 : Hid (Below w.heap.size w w3) := (BB2.out.alloc BB2.out.size _).grown hgrow3 (by simp; have := BB2.out.size; omega) (fun j hj => (OW.out.lt j hj).1); obtain ⟨d0, d1, d2, _, _, _, df⟩ := RR2.out.cell; have e1 := (World.cell?_of_block (a := ⟨w.heap.size, 1, none⟩) hr3).trans d1; have e2 := (World.cell?_of_block (a := ⟨w.heap.size, 2, none⟩) hr3).trans d2; have ef : ∀ j, w3.frozen? ⟨w.heap.size, j, none⟩ = false := (fun j => (World.frozen?_of_block (a := ⟨w.heap.size, j, none⟩) hr3).trans (df j)); have t3 : True := trivial; clear t2 R3 hown3 hgrow3 hr3 d0 d1 d2 df hz2 hW2)
        | (at_builtin; have _t := t3; generalize hW4 : World.setCell w3 _ _ = w4 at RR3 ⊢; have hz4 : w4.heap.size = w3.heap.size := (by rw [← hW4]; simp [World.setCell]); have BB4 : Hid (Below w.heap.size w w4) := (by unfold Hid; rw [← hW4]; exact BB3.out.setCell (p := ⟨w.heap.size, 1, none⟩) (Nat.le_refl _) _); have OP : Hid (w4.ownsRow w.heap.size 4 1 vP k ((List.replicate k false).map Value.bool)) := (by have := RR3.out.spoilt; rwa [List.length_replicate] at this); have CN : Hid (∀ j u, [Value.bool false][j]? = some u → (w4.alloc (.cells #[.bool false] 4)).cell? ((⟨w3.heap.size, 0, none⟩ : Addr).add j) = some u) := (by have := cell_one_new w4 (.bool false) 4; rwa [hz4] at this); refine wpList_append_own _ rfl _ _ 52 rfl w.heap.size 4 iP (.bool false) 1 1 Tryz.underlying52 hP0 hP1 hP2 hP3 rfl (by decide) vP k ((List.replicate k false).map Value.bool) rfl (OP.out.alloc _) ⟨w3.heap.size, 0, none⟩ 1 1 [.bool false] rfl rfl CN.out (by simp [Value.oneCell']) (by unfold maxLen; omega) (by omega) (by simp; have := BB4.out.size; omega) ?_; intro v5 w5 hown5 hgrow5 _; obtain ⟨g3, p3, rfl⟩ := ownsRow_succ hown5; obtain ⟨R5, hr5⟩ := RR3.out.grow2 (x := false) (by rw [List.length_replicate]; exact hown5) hgrow5; have RR5 : Hid (RefIn (w5.setCell ⟨w.heap.size, 2, none⟩ (.slice (some ⟨g3, 0, none⟩) (k + 1) p3)) w.heap.size w.heap.size (.slice (some ⟨g1, 0, none⟩) (k + 1) p1) (.slice (some ⟨g2, 0, none⟩) (k + 1) p2) (.slice (some ⟨g3, 0, none⟩) (k + 1) p3) (List.replicate k bk ++ [bk]) (List.replicate k nilS ++ [nilS]) (List.replicate k false ++ [false]) false false 0) := R5; have BB5 : Hid (Below w.heap.size w w5) := (BB4.out.alloc BB4.out.size _).grown hgrow5 (by simp; have := BB4.out.size; omega) (fun j hj => (OP.out.lt j hj).1); obtain ⟨d0, d1, d2, _, _, _, df⟩ := RR3.out.cell; have f2 := (World.cell?_of_block (a := ⟨w.heap.size, 2, none⟩) hr5).trans d2; have ff : ∀ j, w5.frozen? ⟨w.heap.size, j, none⟩ = false := (fun j => (World.frozen?_of_block (a := ⟨w.heap.size, j, none⟩) hr5).trans (df j)); clear t3 R5 hown5 hgrow5 hr5 d0 d1 d2 df hz4 hW4))
      go_roundg (n - (k + 1))
      case measure => omega
      case rel =>
        have hfin := RR5.out
        rw [← List.replicate_succ', ← List.replicate_succ', ← List.replicate_succ'] at hfin
        exact ⟨k + 1, _, _, _, by omega, rfl, by go_num, hfin, BB5.out.setCell (p := ⟨w.heap.size, 2, none⟩) (Nat.le_refl _) _⟩
    · have hk5 : k = n := by omega
      subst hk5
      go_wp2
      go_ret
      exact ⟨_, _, _, _, rfl, R.out, HB.out⟩
end Go.Proofs.YtjmeiifogblmoaaGreatDoor
