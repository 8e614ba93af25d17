/- For every page and every list of dead and living drives the law PagesAll returns true: what is saved on all drives is loaded from each one that is alive; on none it is lost. Conditions: the library's tables unicode/utf8.acceptRanges and unicode/utf8.first, which the call never reads, hold what they are laid with (tied to the program's text by the card). -/
import Derived.Test.YtlcoibfpebggoaaGreatDoorPgAll
import Derived.Test.YtlcoibfpebggoaaGreatDoorKitGrowL
import Derived.Test.YtlcoibfpebggoaaGreatDoorShown11
import Derived.Test.YtlcoibfpebggoaaGreatDoorPgDid
import Derived.Test.YtlcoibfpebggoaaGreatDoorCards
import Derived.Test.YtlcoibfpebggoaaGreatDoorTie
import Derived.ProofKit
import Derived.OpenShut
import Derived.ShutString
import Derived.Lay
import Derived.LaidOnce
import Derived.Stop.Joined
import Derived.SevenTiedAt
import Derived.Test.YtlcoibfpebggoaaGreatDoorKitBools
import Derived.Test.YtlcoibfpebggoaaGreatDoorMDrvC
import Derived.Test.YtlcoibfpebggoaaGreatDoorKitDet
import Derived.SliceStrings
import Derived.BigQuiet
import Derived.Deep.AppendLies
namespace Go.Proofs.YtlcoibfpebggoaaGreatDoor.pagesAll
open Go.ChangeShapes Go.WideShapes Go.ChangeAt Go.RowKit
open Go.ChangeMaps (open_string shut_string)

set_option maxRecDepth 100000 in
set_option maxHeartbeats 400000 in
theorem walk_far (S : Shown) (w : World) (ev : Nat) (s : ByteArray) (hs : s.size ≤ maxLen) (a : Option Addr) (N cap : Nat) (hN : N ≤ maxLen) (h : 100 < s.size ∨ 10 < N) :
    Calls Tryz.prog 6 #[.int .u64 (ev : Int), .string s, .slice a N cap] w fun e w' => e = .returned (.bool true) ∧ Below w.heap.size w w' := by
  unfold maxLen at hs hN
  by_cases h1 : (100 : Int) < (s.size : Int)
  · clear h
    go_enter Tryz.func6, Tryz.ntmps6
    go_wp2_with fail
    refine (S _).mono ?_
    rintro e w1 ⟨rfl, b1⟩
    go_wp2
    go_ret
    exact ⟨rfl, b1⟩
  · have h2 : (10 : Int) < (N : Int) := by have : 10 < N := h.resolve_left (by omega); omega
    clear h
    go_enter Tryz.func6, Tryz.ntmps6
    go_wp2_with fail
    refine (S _).mono ?_
    rintro e w1 ⟨rfl, b1⟩
    go_wp2
    go_ret
    exact ⟨rfl, b1⟩

theorem news2 (w : World) (x y : Value) (t : TypeId) : ∀ j u, [x, y][j]? = some u → (w.alloc (.cells #[x, y] t)).cell? ((⟨w.heap.size, 0, none⟩ : Addr).add j) = some u := World.news_of_block (heap_alloc_new w _)
theorem many_one (w : World) {B : Nat} (hB : B ≤ w.heap.size) (pp : Nat → Nat) (R : Nat → Dr) : Many (w.alloc (.cells #[] 39)) B 1 (tbA (.slice (some ⟨w.heap.size, 0, none⟩) 0 0) pp R 0) := by
  have h0 := Many.empty w hB 1
  have r0 := World.ownsRow_lit (base := 0) (e := 39) (size := 1) w #[] 0 (Nat.zero_le _) (by decide) rfl
  refine (Many.fresh h0 (i := 0) (by decide) (T' := rowT 39 (.slice (some ⟨w.heap.size, 0, none⟩) 0 0) []) (G := fun k => w.heap.size ≤ k) ((Below.refl _ w).alloc (Nat.le_refl _) _) ⟨r0, fun g e => by cases e; exact Nat.le_refl _⟩ (fun _ h => h)).congr fun x hx => ?_
  have : x = 0 := by omega
  subst this
  rfl

set_option maxRecDepth 100000 in
set_option maxHeartbeats 4000000 in
theorem walk_some (P : PgDoes) (S : Shown) (w : World) (ev : Nat) (hev : ev < 18446744073709551616) (s : ByteArray) (hs : s.size ≤ 100) (b off cap N : Nat) (hN : N ≤ 10) (B : Nat → Bool) (hB : ∀ j, j < N → w.cell? ⟨b, off + j, none⟩ = some (.bool (B j))) :
    Calls Tryz.prog 6 #[.int .u64 (ev : Int), .string s, .slice (some ⟨b, off, none⟩) N cap] w fun e w' => e = .returned (.bool true) ∧ Below w.heap.size w w' := by
  have hpi : (Tryz.prog.info? 39).map (fun i => (i.zero, i.size, i.bytes)) = some (some (.pointer none), 1, 8) := by kernel_rfl
  obtain ⟨iP, hP0, hP1, hP2, hP3⟩ := info_parts hpi
  have l1 : ¬ (100 : Int) < (s.size : Int) := by omega
  have l2 : ¬ (10 : Int) < (N : Int) := by omega
  have HN : Hid (N ≤ 10) := hN
  have HD : Hid (∀ j, j < N → w.cell? ⟨b, off + j, none⟩ = some (.bool (B j))) := hB
  have HBT : Hid (∀ W, Calls Tryz.prog 24 #[.string s] W fun e w' => e = .returned (.string (bits8 s)) ∧ w' = W) := bits_any s hs
  have H8 : Hid ((bits8 s).size = 8) := bits8_size s
  obtain ⟨t, ht⟩ : ∃ t, t = bits8 s := ⟨_, rfl⟩
  rw [← ht] at HBT H8
  clear hpi ht hN hB hs
  go_enter Tryz.func6, Tryz.ntmps6
  go_wp2_with fail
  refine (S _).mono ?_
  rintro e w1 ⟨rfl, b1⟩
  have B1 : Hid (Below w.heap.size w w1) := b1
  clear b1
  go_wp2
  go_loopg [7, 8, 9] N (fun gg v c i wr => ∃ (k : Nat) (pp : Nat → Nat) (x : Value), k ≤ N ∧ gg = N - k ∧ x = v ∧ c = .int .i64 (cntA B k : Nat) ∧ i = .int .i64 k ∧ Many wr w.heap.size (k + 1) (tbA x pp (drA B) k) ∧ Below w.heap.size w wr)
  case atStart => exact ⟨0, fun _ => 0, _, Nat.zero_le _, rfl, rfl, rfl, rfl, many_one w1 B1.out.size _ _, B1.out.alloc B1.out.size _⟩
  case round =>
  obtain ⟨k, pp, x, hk, rfl, rfl, rfl, rfl, hM, hb⟩ := hrel
  have HM : Hid (Many wr w.heap.size (k + 1) (tbA x pp (drA B) k)) := hM
  have HB : Hid (Below w.heap.size w wr) := hb
  obtain ⟨a5, c5, rfl⟩ := head_of hM (i := 0) (by omega) rfl (lstA_length pp k)
  have hk10 : k ≤ 10 := Nat.le_trans hk HN.out
  clear hM hb B1
  by_cases hlt : k < N
  case pos =>
    have hki : (k : Int) < (N : Int) := by omega
    have hdk := HD.out k hlt
    go_wp2_with fail
    refine (new_yes 3 (by decide) (by decide) _).mono ?_
    rintro e w2 ⟨p, rfl, hd, b2⟩
    have e2 := (below2 HB.out b2).cell (p := ⟨b, off + k, none⟩) (World.block_lt_of_cell? w _ hdk)
    have e3 := e2.trans hdk
    clear e2 hdk
    cases hBk : B k with
    | true =>
      rw [hBk] at e3
      have HB2 : Hid (Below wr.heap.size wr w2) := b2
      have HD2 : Hid (DriveAt w2 p (Dr.fresh 3) (fun j => wr.heap.size ≤ j)) := hd
      clear hd b2
      go_wp2_with fail
      refine (die_any HD2.out).mono ?_
      rintro e w3 ⟨rfl, hd3, o3⟩
      have b3 : Below wr.heap.size wr w3 := HB2.out.trans (o3.below (fun _ h => h) HB2.out.size)
      clear o3
      have M3 : Hid (Many w3 w.heap.size (k + 2) (swap1 (tbA (.slice a5 (2 * k) c5) pp (drA B) k) (k + 1) (drvT p (drA B k)))) := Many.add HM.out b3 (by rw [show drA B k = (Dr.fresh 3).die by unfold drA; rw [hBk]; rfl]; exact hd3) (fun _ h => h)
      have BB3 : Hid (Below w.heap.size w w3) := below2 HB.out b3
      have O3 : Hid (w3.ownsRow 0 39 1 (.slice a5 (2 * k) c5) (2 * k) (lstA k pp)) := many_own M3.out (i := 0) (by omega) (by rw [swap1_other _ _ (by omega)]; rfl) (lstA_length pp k).symm
      have t1 : True := trivial
      clear hd3 b3 HM
      go_wp2_with (first | (at_builtin; have _t := t1; refine wpList_append_lies _ rfl _ _ 37 rfl 0 39 iP (.pointer none) 1 8 Tryz.underlying37 hP0 hP1 hP2 hP3 rfl (by decide) (.slice a5 (2 * k) c5) (2 * k) (lstA k pp) rfl (O3.out.alloc _) ⟨_, 0, none⟩ 2 2 [.pointer (some ⟨p, 0, none⟩), .pointer none] rfl rfl (news2 _ _ _ _) (by simp [Value.oneCell']) (by decide) (by unfold maxLen; omega) (by omega) (Nat.zero_le _) _ rfl ?_; intro g5 c6 w5 own1 grow1 lies1 lt1; obtain ⟨m5, b5⟩ := many_growL M3.out (i := 0) (by omega) (l := lstA k pp) (v := .slice a5 (2 * k) c5) (by rw [swap1_other _ _ (by omega)]; rfl) (l' := lstA k pp ++ [.pointer (some ⟨p, 0, none⟩), .pointer none]) (by rw [List.length_append, lstA_length]; rfl) ((Below.refl _ _).alloc (Nat.le_refl _) _) own1 grow1 lies1; have M5 : Hid (Many w5 w.heap.size (k + 2) (tbA (.slice (some ⟨g5, 0, none⟩) (2 * k + 2) c6) (swap1 pp k p) (drA B) (k + 1))) := m5.congr (fun x hx => tbA_grow rfl x hx); have BB5 : Hid (Below w.heap.size w w5) := BB3.out.trans b5; clear m5 b5 own1 grow1 lies1 lt1 t1))
      go_roundg (N - (k + 1))
      case measure => omega
      case rel => exact ⟨k + 1, _, _, by omega, rfl, rfl, by simp only [cntA, hBk, if_true], by go_num, M5.out, BB5.out⟩
    | false =>
      rw [hBk] at e3
      obtain ⟨w3, hw3⟩ : ∃ w3, w3 = w2 := ⟨_, rfl⟩
      rw [← hw3] at hd b2 e3 ⊢
      have hd3 := hd
      have b3 := b2
      clear hd b2 hw3
      have M3 : Hid (Many w3 w.heap.size (k + 2) (swap1 (tbA (.slice a5 (2 * k) c5) pp (drA B) k) (k + 1) (drvT p (drA B k)))) := Many.add HM.out b3 (by rw [show drA B k = Dr.fresh 3 by unfold drA; rw [hBk]; rfl]; exact hd3) (fun _ h => h)
      have BB3 : Hid (Below w.heap.size w w3) := below2 HB.out b3
      have O3 : Hid (w3.ownsRow 0 39 1 (.slice a5 (2 * k) c5) (2 * k) (lstA k pp)) := many_own M3.out (i := 0) (by omega) (by rw [swap1_other _ _ (by omega)]; rfl) (lstA_length pp k).symm
      have t1 : True := trivial
      clear hd3 b3 HM
      have hcl := cntA_le B k
      go_wp2_with (first | (at_builtin; have _t := t1; refine wpList_append_lies _ rfl _ _ 37 rfl 0 39 iP (.pointer none) 1 8 Tryz.underlying37 hP0 hP1 hP2 hP3 rfl (by decide) (.slice a5 (2 * k) c5) (2 * k) (lstA k pp) rfl (O3.out.alloc _) ⟨_, 0, none⟩ 2 2 [.pointer (some ⟨p, 0, none⟩), .pointer none] rfl rfl (news2 _ _ _ _) (by simp [Value.oneCell']) (by decide) (by unfold maxLen; omega) (by omega) (Nat.zero_le _) _ rfl ?_; intro g5 c6 w5 own1 grow1 lies1 lt1; obtain ⟨m5, b5⟩ := many_growL M3.out (i := 0) (by omega) (l := lstA k pp) (v := .slice a5 (2 * k) c5) (by rw [swap1_other _ _ (by omega)]; rfl) (l' := lstA k pp ++ [.pointer (some ⟨p, 0, none⟩), .pointer none]) (by rw [List.length_append, lstA_length]; rfl) ((Below.refl _ _).alloc (Nat.le_refl _) _) own1 grow1 lies1; have M5 : Hid (Many w5 w.heap.size (k + 2) (tbA (.slice (some ⟨g5, 0, none⟩) (2 * k + 2) c6) (swap1 pp k p) (drA B) (k + 1))) := m5.congr (fun x hx => tbA_grow rfl x hx); have BB5 : Hid (Below w.heap.size w w5) := BB3.out.trans b5; clear m5 b5 own1 grow1 lies1 lt1 t1))
      go_roundg (N - (k + 1))
      case measure => omega
      case rel => exact ⟨k + 1, _, _, by omega, rfl, rfl, by simp [cntA, hBk], by go_num, M5.out, BB5.out⟩
  case neg =>
    have hkn : k = N := by omega
    subst hkn
    clear hlt hk
    have HS : Hid (∀ {W : World}, Many W w.heap.size (k + 1) (tbA (.slice a5 (2 * k) c5) pp (drA B) k) → Calls Tryz.prog 22 #[.slice a5 (2 * k) c5, .agg #[.int .u64 (ev : Int), .string t]] W fun e w' =>
        e = .returned (.tuple #[.int .i64 (cntA B k : Nat), .int .i64 (Pg.allE (cntA B k) : Nat)]) ∧ Many w' w.heap.size (k + 1) (tbA (.slice a5 (2 * k) c5) pp (fun i => if i < k then (drA B i).pgSaveD ⟨ev, t⟩ else drA B i) k) ∧ Below w.heap.size W w') := fun {W} h => by
      have hz := h.size
      have e0 := lstA_length pp k
      have hc := P.all h 0 1 k (by omega) (by omega) a5 c5 (lstA k pp) (by rw [e0]; rfl) pp (drA B) (fun i hi => tbA_drv) whoA (listedA k pp) (fun i _ => drA_fit B i) (by omega) ⟨ev, t⟩ hev
      obtain ⟨n1, n2⟩ := all_drA (B := B) (p := ⟨ev, t⟩) hev H8.out k
      rw [e0, n1, show Pg.allA ⟨ev, t⟩ (cntA B k) = (cntA B k, Pg.allE (cntA B k)) from if_pos H8.out] at hc
      refine hc.mono ?_
      rintro e w' ⟨he, hm, ho⟩
      refine ⟨he, hm.congr fun x hx => ?_, ho.below (fun _ hk => hk.1) hz⟩
      rw [show (fun i => drvT (pp i) (Pg.allD whoA (drA B) ⟨ev, t⟩ (2 * k) i)) = (fun i => drvT (pp i) (if i < k then (drA B i).pgSaveD ⟨ev, t⟩ else drA B i)) from funext fun i => by rw [n2 i]]
      exact tbA_all x hx
    go_wp2_with fail
    refine (HBT.out _).mono ?_
    rintro e w2 ⟨rfl, rfl⟩
    go_wp2_with fail
    refine (HS.out HM.out).mono ?_
    rintro e w3 ⟨rfl, m3, b3⟩
    have M3 : Hid _ := m3
    have B3 : Hid (Below w.heap.size w w3) := HB.out.trans b3
    have hcl := cntA_le B k
    obtain ⟨n, hn⟩ : ∃ n, n = cntA B k := ⟨_, rfl⟩
    rw [← hn] at hcl ⊢
    clear m3 b3 HS
    obtain ⟨g, hg, hgn⟩ : ∃ g, g = Pg.allE n ∧ ((g = 60 ∧ n = 0) ∨ (g = 0 ∧ 0 < n)) := ⟨_, rfl, by unfold Pg.allE; by_cases h : n = 0; exact .inl ⟨if_pos h, h⟩; exact .inr ⟨if_neg h, by omega⟩⟩
    rw [← hg]
    clear hg hn
    rcases hgn with ⟨rfl, rfl⟩ | ⟨rfl, hpos⟩
    all_goals
      have HL : Hid (∀ {W : World} {j : Nat}, j < k → Many W w.heap.size (k + 1) (tbA (.slice a5 (2 * k) c5) pp (fun i => if i < k then (drA B i).pgSaveD ⟨ev, t⟩ else drA B i) k) → Calls Tryz.prog 25 #[.pointer (some ⟨pp j, 0, none⟩)] W fun e w' =>
          e = .returned (.tuple #[pgV (if B j = true then Pg.none else ⟨ev, t⟩), .int .i64 ((if B j = true then 40 else 0 : Nat) : Nat)]) ∧ Below W.heap.size W w') := fun {W j} hj h => by
        obtain ⟨F, hF, _⟩ := Many.look h (i := 1 + j) (by omega)
        rw [tbA_drv, if_pos hj] at hF
        cases hBj : B j with
        | true =>
          have := P.load hF (((drA_fit B j).save _).goes)
          rw [(drA_dead H8.out hBj).2.1, (drA_dead H8.out hBj).2.2] at this
          exact this
        | false =>
          have := P.load hF (((drA_fit B j).save _).goes)
          rw [(drA_live (p := ⟨ev, t⟩) hev H8.out hBj).2.1, (drA_live (p := ⟨ev, t⟩) hev H8.out hBj).2.2] at this
          exact this
      clear HM HB
      rcases Nat.eq_zero_or_pos k with rfl | hk0
      · go_wp2
        go_loopg [13] 0 (fun gg i wr => gg = 0 ∧ i = .int .i64 0 ∧ wr = w3)
        case atStart => exact ⟨rfl, rfl, rfl⟩
        case round =>
          obtain ⟨rfl, rfl, rfl⟩ := hrel
          go_wp2
          go_ret
          exact ⟨rfl, B3.out⟩
      · obtain ⟨g5, rfl, _⟩ := many_at M3.out (i := 0) (by omega) rfl (lstA_at pp k 0 hk0).1
        go_wp2
        go_loopg [13] k (fun gg i wr => ∃ j : Nat, j ≤ k ∧ gg = k - j ∧ i = .int .i64 j ∧ Many wr w.heap.size (k + 1) (tbA (.slice (some ⟨g5, 0, none⟩) (2 * k) c5) pp (fun i => if i < k then (drA B i).pgSaveD ⟨ev, t⟩ else drA B i) k) ∧ Below w.heap.size w wr)
        case atStart => exact ⟨0, Nat.zero_le _, rfl, rfl, M3.out, B3.out⟩
        case round =>
          obtain ⟨j, hj, rfl, rfl, hM, hb⟩ := hrel
          have HM : Hid (Many wr w.heap.size (k + 1) (tbA (.slice (some ⟨g5, 0, none⟩) (2 * k) c5) pp (fun i => if i < k then (drA B i).pgSaveD ⟨ev, t⟩ else drA B i) k)) := hM
          have HB : Hid (Below w.heap.size w wr) := hb
          clear hM hb M3 B3
          by_cases hlt : j < k
          case neg =>
            have hjk : j = k := by omega
            subst hjk
            go_wp2
            go_ret
            exact ⟨rfl, HB.out⟩
          case pos =>
            have hji : (j : Int) < (k : Int) := by omega
            have hj2 : (2 : Int) * (j : Int) < 2 * (k : Int) := by omega
            have hj0 : (0 : Int) ≤ 2 * (j : Int) := by omega
            have hto : ((2 : Int) * (j : Int)).toNat = 2 * j := by omega
            obtain ⟨_, hg, hc⟩ := many_at HM.out (i := 0) (by omega) rfl (lstA_at pp k j hlt).1
            cases hg
            have hl := HL.out hlt HM.out
            obtain ⟨pj, hpj⟩ : ∃ pj, pj = pp j := ⟨_, rfl⟩
            rw [← hpj] at hc hl
            have hd0 := (HB.out.cell (p := ⟨b, off + j, none⟩) (World.block_lt_of_cell? w _ (HD.out j hlt))).trans (HD.out j hlt)
            have hbl : b < wr.heap.size := World.block_lt_of_cell? wr _ hd0
            clear hpj
            cases hBj : B j
            case true =>
              rw [hBj] at hl hd0
              simp only [if_true] at hl
              unfold pgV at hl
              go_wp2_with fail
              refine Calls.mono hl ?_
              rintro e w5 ⟨rfl, b5⟩
              clear hl
              have d0 := (b5.cell (p := ⟨b, off + j, none⟩) hbl).trans hd0
              have hbl5 : b < w5.heap.size := World.block_lt_of_cell? w5 _ d0
              have M5 : Hid (Many w5 w.heap.size (k + 1) _) := HM.out.below b5
              have BB5 : Hid (Below w.heap.size w w5) := below2 HB.out b5
              clear b5 hd0 hc hbl
              try unfold Pg.none
              go_upto_region 22 with fail
              obtain ⟨w6, hw6⟩ : ∃ w6, w6 = w5.alloc (.cells #[.int .u64 0, .string ⟨#[]⟩] 24) := ⟨_, rfl⟩
              have b6 : Below w5.heap.size w5 w6 := by rw [hw6]; exact (Below.refl _ _).alloc (Nat.le_refl _) _
              have c0 : w6.cell? ⟨w5.heap.size, 0, none⟩ = some (.int .u64 0) := by rw [hw6, World.cell?_alloc_mark]; rfl
              have c1 : w6.cell? ⟨w5.heap.size, 1, none⟩ = some (.string ⟨#[]⟩) := by rw [hw6, World.cell?_alloc_mark]; rfl
              have d6 := (b6.cell (p := ⟨b, off + j, none⟩) hbl5).trans d0
              have M6 : Hid (Many w6 w.heap.size (k + 1) _) := M5.out.below b6
              have B6 : Hid (Below w.heap.size w w6) := below2 BB5.out b6
              change Code.wp _ _ _ _ (w5.alloc (.cells #[.int .u64 0, .string ⟨#[]⟩] 24))
              rw [← hw6]
              have hbt := HBT.out
              clear hw6 b6 d0 hbl5 M5 BB5
              go_quiet ((go_at_call 24; refine Calls.quiet_of_same (hbt _)))
              go_wp2
              go_roundg (k - (j + 1))
              case measure => omega
              case rel => exact ⟨j + 1, by omega, rfl, by go_num, M6.out.below (below_drewN (Below.refl _ _) _), below_drewN B6.out _⟩
            case false =>
              rw [hBj] at hl hd0
              simp only [if_false, Bool.false_eq_true] at hl
              unfold pgV at hl
              go_wp2_with fail
              refine Calls.mono hl ?_
              rintro e w5 ⟨rfl, b5⟩
              clear hl
              have d0 := (b5.cell (p := ⟨b, off + j, none⟩) hbl).trans hd0
              have hbl5 : b < w5.heap.size := World.block_lt_of_cell? w5 _ d0
              have M5 : Hid (Many w5 w.heap.size (k + 1) _) := HM.out.below b5
              have BB5 : Hid (Below w.heap.size w w5) := below2 HB.out b5
              clear b5 hd0 hc hbl
              try unfold Pg.none
              go_upto_region 22 with fail
              obtain ⟨w6, hw6⟩ : ∃ w6, w6 = w5.alloc (.cells #[.int .u64 (ev : Int), .string t] 24) := ⟨_, rfl⟩
              have b6 : Below w5.heap.size w5 w6 := by rw [hw6]; exact (Below.refl _ _).alloc (Nat.le_refl _) _
              have c0 : w6.cell? ⟨w5.heap.size, 0, none⟩ = some (.int .u64 (ev : Int)) := by rw [hw6, World.cell?_alloc_mark]; rfl
              have c1 : w6.cell? ⟨w5.heap.size, 1, none⟩ = some (.string t) := by rw [hw6, World.cell?_alloc_mark]; rfl
              have d6 := (b6.cell (p := ⟨b, off + j, none⟩) hbl5).trans d0
              have M6 : Hid (Many w6 w.heap.size (k + 1) _) := M5.out.below b6
              have B6 : Hid (Below w.heap.size w w6) := below2 BB5.out b6
              change Code.wp _ _ _ _ (w5.alloc (.cells #[.int .u64 (ev : Int), .string t] 24))
              rw [← hw6]
              have hbt := HBT.out
              clear hw6 b6 d0 hbl5 M5 BB5
              go_quiet ((go_at_call 24; refine Calls.quiet_of_same (hbt _)))
              go_wp2
              go_roundg (k - (j + 1))
              case measure => omega
              case rel => exact ⟨j + 1, by omega, rfl, by go_num, M6.out.below (below_drewN (Below.refl _ _) _), below_drewN B6.out _⟩

set_option maxRecDepth 100000 in
set_option maxHeartbeats 4000000 in
theorem walk_nil (P : PgDoes) (S : Shown) (w : World) (ev : Nat) (hev : ev < 18446744073709551616) (s : ByteArray) (hs : s.size ≤ 100) (a : Option Addr) (cap N : Nat) (h0 : N = 0) (B : Nat → Bool) :
    Calls Tryz.prog 6 #[.int .u64 (ev : Int), .string s, .slice a N cap] w fun e w' => e = .returned (.bool true) ∧ Below w.heap.size w w' := by
  have hpi : (Tryz.prog.info? 39).map (fun i => (i.zero, i.size, i.bytes)) = some (some (.pointer none), 1, 8) := by kernel_rfl
  obtain ⟨iP, hP0, hP1, hP2, hP3⟩ := info_parts hpi
  have l1 : ¬ (100 : Int) < (s.size : Int) := by omega
  have l2 : ¬ (10 : Int) < (N : Int) := by omega
  have hN : N ≤ 10 := by omega
  have HN : Hid (N ≤ 10) := hN
  have H0 : Hid (N = 0) := h0
  have HBT : Hid (∀ W, Calls Tryz.prog 24 #[.string s] W fun e w' => e = .returned (.string (bits8 s)) ∧ w' = W) := bits_any s hs
  have H8 : Hid ((bits8 s).size = 8) := bits8_size s
  obtain ⟨t, ht⟩ : ∃ t, t = bits8 s := ⟨_, rfl⟩
  rw [← ht] at HBT H8
  clear hpi ht hN h0 hs
  go_enter Tryz.func6, Tryz.ntmps6
  go_wp2_with fail
  refine (S _).mono ?_
  rintro e w1 ⟨rfl, b1⟩
  have B1 : Hid (Below w.heap.size w w1) := b1
  clear b1
  go_wp2
  go_loopg [7, 8, 9] N (fun gg v c i wr => ∃ (k : Nat) (pp : Nat → Nat) (x : Value), k ≤ N ∧ gg = N - k ∧ x = v ∧ c = .int .i64 (cntA B k : Nat) ∧ i = .int .i64 k ∧ Many wr w.heap.size (k + 1) (tbA x pp (drA B) k) ∧ Below w.heap.size w wr)
  case atStart => exact ⟨0, fun _ => 0, _, Nat.zero_le _, rfl, rfl, rfl, rfl, many_one w1 B1.out.size _ _, B1.out.alloc B1.out.size _⟩
  case round =>
  obtain ⟨k, pp, x, hk, rfl, rfl, rfl, rfl, hM, hb⟩ := hrel
  have HM : Hid (Many wr w.heap.size (k + 1) (tbA x pp (drA B) k)) := hM
  have HB : Hid (Below w.heap.size w wr) := hb
  obtain ⟨a5, c5, rfl⟩ := head_of hM (i := 0) (by omega) rfl (lstA_length pp k)
  have hk10 : k ≤ 10 := Nat.le_trans hk HN.out
  clear hM hb B1
  by_cases hlt : k < N
  case pos =>
    exact absurd hlt (by have := H0.out; omega)
  case neg =>
    have hkn : k = N := by omega
    subst hkn
    clear hlt hk
    have HS : Hid (∀ {W : World}, Many W w.heap.size (k + 1) (tbA (.slice a5 (2 * k) c5) pp (drA B) k) → Calls Tryz.prog 22 #[.slice a5 (2 * k) c5, .agg #[.int .u64 (ev : Int), .string t]] W fun e w' =>
        e = .returned (.tuple #[.int .i64 (cntA B k : Nat), .int .i64 (Pg.allE (cntA B k) : Nat)]) ∧ Many w' w.heap.size (k + 1) (tbA (.slice a5 (2 * k) c5) pp (fun i => if i < k then (drA B i).pgSaveD ⟨ev, t⟩ else drA B i) k) ∧ Below w.heap.size W w') := fun {W} h => by
      have hz := h.size
      have e0 := lstA_length pp k
      have hc := P.all h 0 1 k (by omega) (by omega) a5 c5 (lstA k pp) (by rw [e0]; rfl) pp (drA B) (fun i hi => tbA_drv) whoA (listedA k pp) (fun i _ => drA_fit B i) (by omega) ⟨ev, t⟩ hev
      obtain ⟨n1, n2⟩ := all_drA (B := B) (p := ⟨ev, t⟩) hev H8.out k
      rw [e0, n1, show Pg.allA ⟨ev, t⟩ (cntA B k) = (cntA B k, Pg.allE (cntA B k)) from if_pos H8.out] at hc
      refine hc.mono ?_
      rintro e w' ⟨he, hm, ho⟩
      refine ⟨he, hm.congr fun x hx => ?_, ho.below (fun _ hk => hk.1) hz⟩
      rw [show (fun i => drvT (pp i) (Pg.allD whoA (drA B) ⟨ev, t⟩ (2 * k) i)) = (fun i => drvT (pp i) (if i < k then (drA B i).pgSaveD ⟨ev, t⟩ else drA B i)) from funext fun i => by rw [n2 i]]
      exact tbA_all x hx
    go_wp2_with fail
    refine (HBT.out _).mono ?_
    rintro e w2 ⟨rfl, rfl⟩
    go_wp2_with fail
    refine (HS.out HM.out).mono ?_
    rintro e w3 ⟨rfl, m3, b3⟩
    have M3 : Hid _ := m3
    have B3 : Hid (Below w.heap.size w w3) := HB.out.trans b3
    have hcl := cntA_le B k
    obtain ⟨n, hn⟩ : ∃ n, n = cntA B k := ⟨_, rfl⟩
    rw [← hn] at hcl ⊢
    clear m3 b3 HS
    obtain ⟨g, hg, hgn⟩ : ∃ g, g = Pg.allE n ∧ ((g = 60 ∧ n = 0) ∨ (g = 0 ∧ 0 < n)) := ⟨_, rfl, by unfold Pg.allE; by_cases h : n = 0; exact .inl ⟨if_pos h, h⟩; exact .inr ⟨if_neg h, by omega⟩⟩
    rw [← hg]
    clear hg hn
    rcases hgn with ⟨rfl, rfl⟩ | ⟨rfl, hpos⟩
    all_goals
      have HL : Hid (∀ {W : World} {j : Nat}, j < k → Many W w.heap.size (k + 1) (tbA (.slice a5 (2 * k) c5) pp (fun i => if i < k then (drA B i).pgSaveD ⟨ev, t⟩ else drA B i) k) → Calls Tryz.prog 25 #[.pointer (some ⟨pp j, 0, none⟩)] W fun e w' =>
          e = .returned (.tuple #[pgV (if B j = true then Pg.none else ⟨ev, t⟩), .int .i64 ((if B j = true then 40 else 0 : Nat) : Nat)]) ∧ Below W.heap.size W w') := fun {W j} hj h => by
        obtain ⟨F, hF, _⟩ := Many.look h (i := 1 + j) (by omega)
        rw [tbA_drv, if_pos hj] at hF
        cases hBj : B j with
        | true =>
          have := P.load hF (((drA_fit B j).save _).goes)
          rw [(drA_dead H8.out hBj).2.1, (drA_dead H8.out hBj).2.2] at this
          exact this
        | false =>
          have := P.load hF (((drA_fit B j).save _).goes)
          rw [(drA_live (p := ⟨ev, t⟩) hev H8.out hBj).2.1, (drA_live (p := ⟨ev, t⟩) hev H8.out hBj).2.2] at this
          exact this
      clear HM HB
      rcases Nat.eq_zero_or_pos k with rfl | hk0
      · go_wp2
        go_loopg [13] 0 (fun gg i wr => gg = 0 ∧ i = .int .i64 0 ∧ wr = w3)
        case atStart => exact ⟨rfl, rfl, rfl⟩
        case round =>
          obtain ⟨rfl, rfl, rfl⟩ := hrel
          go_wp2
          go_ret
          exact ⟨rfl, B3.out⟩
      · exact absurd H0.out (by omega)

theorem walk_says (P : PgDoes) (S : Shown) (w : World) (a0 : Int) (w0 : (Lit.int .u64 a0).wf = true) (a1 : ByteArray) (w1 : a1.size ≤ maxLen) (a2 : Option Addr) (len2 cap2 : Nat) (B2 : Nat → Bool) (w2 : IsBools w a2 len2 cap2 B2) :
    Calls Tryz.prog 6 #[.int .u64 a0, .string a1, .slice a2 len2 cap2] w fun e w' => e = .returned (.bool true) ∧ Below w.heap.size w w' := by
  have h1 := bounds_u64 w0
  obtain ⟨ev, rfl⟩ := Int.eq_ofNat_of_zero_le h1.1
  have hev : ev < 18446744073709551616 := by have := h1.2; omega
  obtain ⟨hm, hr⟩ := w2.row
  by_cases hf : 100 < a1.size ∨ 10 < len2
  · exact walk_far S w ev a1 w1 a2 len2 cap2 hm hf
  · by_cases h0 : 0 < len2
    · obtain ⟨b, off, rfl, hB⟩ := hr h0
      exact walk_some P S w ev hev a1 (by omega) b off cap2 len2 (by omega) B2 hB
    · exact walk_nil P S w ev hev a1 (by omega) a2 cap2 len2 (by omega) B2

theorem of_laid {W : World} (_ : laidMetH Tryz.prog Rows.pagesAllRow.laid W) : True := trivial
theorem walk (w : World) (a0 : Int) (w0 : (Lit.int .u64 a0).wf = true) (a1 : ByteArray) (w1 : a1.size ≤ maxLen) (a2 : Option Addr) (len2 cap2 : Nat) (B2 : Nat → Bool) (w2 : IsBools w a2 len2 cap2 B2) (_ : True) :
    Calls Tryz.prog 6 #[.int .u64 a0, .string a1, .slice a2 len2 cap2] w fun e w' => e = .returned (.bool true) ∧ Below w.heap.size w w' := walk_says pg_does (shown11 pg_does) w a0 w0 a1 w1 a2 len2 cap2 B2 w2

theorem own : ownKnob Tryz.prog.godebug = none := by kernel_rfl
theorem laidOut : laidOutB Tryz.prog = true := by kernel_rfl
theorem door_met (os : Os) (args : Array Value) : laidMetH Tryz.prog Rows.pagesAllRow.laid ((World.laidAll Tryz.prog os Rows.pagesAllRow.laid).forCall (fun _ _ => 0) ⟨#[], args, []⟩).memory := by
  rw [MakeChecks.laidMetH_plain _ _ _ (by kernel_rfl)]
  exact laidMet_laidAll _ (by kernel_rfl) (by kernel_rfl)
set_option linter.unusedVariables false in
set_option maxRecDepth 100000 in
theorem lifted (os : Os) (started : os.Started) (H : Type) (enc : TypeId × Value → H) :
    ReturnsInHanded {} Tryz.checked os 6 .any (fun w args => (Rows.pagesAllSpec.pre enc Tryz.prog Tryz.f6 [] false w args ∧ laidMetH Tryz.prog Rows.pagesAllRow.laid w) ∧ sizedMet enc Tryz.prog Tryz.f6 (OpenSpec.ofChange Rows.pagesAllSpec) false w args) (Rows.pagesAllSpec.post enc Tryz.prog Tryz.f6 false true false false) := by
  refine returnsInHanded_of_change_and (C := Tryz.checked) (X := fun w _ => laidMetH Tryz.prog Rows.pagesAllRow.laid w) (fun _ _ _ hh h => h.of_heap hh) own started (by kernel_rfl) Tryz.func6
    (ChangeSpec.witness_shaped (enc := enc) (C := Tryz.checked) (os := os) (X := fun w _ => laidMetH Tryz.prog Rows.pagesAllRow.laid w) false (World.laidAll Tryz.prog os Rows.pagesAllRow.laid) #[.int .u64 0, .string ByteArray.empty, .slice none 0 0] 8 (World.laidAll_os _ _ _) (World.shaped_of_ZipB (by kernel_rfl) (by kernel_rfl)) (by kernel_rfl) (by kernel_rfl) (by kernel_rfl) (door_met os _)) ?_
  intro W base args ds gs before hval0 hW _ _ hL _
  have hval : ∀ (j : Nat) t v, Tryz.f6.params[j]? = some t → args[j]? = some v → Value.okWide Tryz.prog W .any base t v := hval0
  have hW' := hW
  obtain ⟨p, q, hA0, hV, rfl, hfz, hnd⟩ := hW
  have hA : DataW.TrodAll enc Tryz.prog W 0 (fun _ => true) true Tryz.f6.params.toList args.toList ds p := hA0
  rw [Tryz.params6] at hA hval
  obtain ⟨v0, vs0, d0, ds0, p0, q0, hargs, rfl, rfl, h0, r0⟩ := trodAll_cons hA
  obtain ⟨v1, vs1, d1, ds1, p1, q1, rfl, rfl, rfl, h1, r1⟩ := trodAll_cons r0
  obtain ⟨v2, vs2, d2, ds2, p2, q2, rfl, rfl, rfl, h2, r2⟩ := trodAll_cons r1
  obtain ⟨rfl, rfl, rfl⟩ := trodAll_nil r2
  obtain rfl : args = #[v0, v1, v2] := by cases args; simp_all
  obtain ⟨rfl, rfl⟩ := trodVars_none hV
  obtain ⟨a0, rfl, rfl, rfl, w0⟩ := open_int Tryz.underlying22 (hval 0 22 v0 rfl rfl) h0
  obtain ⟨a1, rfl, rfl, rfl, w1⟩ := open_string Tryz.underlying9 (hval 1 9 v1 rfl rfl) h1
  obtain ⟨a2, len2, cap2, rfl⟩ := okWide_slice Tryz.underlying52 (hval 2 52 v2 rfl rfl)
  have k2 := h2
  have lt2 : ∀ x ∈ p2, x.block < W.heap.size := by obtain ⟨m, hm⟩ := k2; exact DataW.trod_lt m _ _ _ hm
  obtain ⟨B2, w2⟩ : ∃ B, IsBools W a2 len2 cap2 B := by
    obtain ⟨fuel, hf⟩ := h2
    rcases Go.Deep.open_bools Tryz.underlying52 Tryz.underlying4 (by kernel_rfl) hf with ⟨hcs, _⟩ | ⟨x, l, c, B, hcs, _, hl, hm, _, hcell⟩
    · simp [Value.cells] at hcs
      obtain ⟨rfl, rfl, rfl⟩ := hcs
      exact ⟨fun _ => false, .inl ⟨rfl, rfl, rfl⟩⟩
    · simp [Value.cells] at hcs
      obtain ⟨rfl, rfl, rfl⟩ := hcs
      exact ⟨B, .inr ⟨_, rfl, hl, hm, hcell⟩⟩
  clear hA0 hval0
  simp only [List.append_nil] at hW'
  refine (walk W a0 w0 a1 w1 a2 len2 cap2 B2 w2 (of_laid hL)).mono fun e W' ⟨he, hg⟩ => ?_
  subst he
  exact ⟨_, rfl, _, _, _, [], _, [], hW', trodAll_mk1 (shut_bool Tryz.underlying4 _), (trodAll_cons_mk (shut_int Tryz.underlying22 w0) (trodAll_cons_mk (shut_string Tryz.underlying9 w1) (trodAll_cons_mk (Below.trod laidOut (by kernel_rfl) (of_decide_eq_true (by kernel_rfl)) k2 hg lt2) trodAll_mk0))), rfl, hg.frame _, fun h => by cases h⟩
/-- The row: for every input, where the listed tables read as their initialisers lay them, the law returns true, and each argument reads as it did. -/
theorem row_proved : Rows.PagesAllSaid :=
  OpenClaim.holds_of_wide 6 Tryz.f6 rfl rfl rfl rfl rfl rfl rfl ⟨rfl, rfl, rfl, rfl, rfl⟩ rfl rfl rfl rfl rfl (by kernel_rfl) Tryz.func6 (by kernel_rfl)
    (of_decide_eq_true (by kernel_rfl)) (by unfold Func.isWrapper; first | (rw [if_pos (by decide +kernel)]; kernel_rfl) | (rw [if_neg (by decide +kernel)]; exact ⟨rfl, rfl⟩))
    (fun os started H enc _ => lifted os started H enc)
/-- For every input the law returns true, and each argument reads as it did; what the listed tables hold is tied to the program's text. -/
theorem proved : Rows.PagesAllCardSaid :=
  Claim7.holds_tied_plain_at .later [] [.data, .pinned] true (true, "517d6080fa90421d27ef2ef93c386dcf76469a6045d9f472575822940872c396") false
    row_proved (fun _ h => by cases h) (by kernel_rfl) (fun _ h => by cases h) pagesAll_row_tie rfl ⟨rfl, rfl⟩ (by kernel_rfl) rfl
    (fun f fn hf hfn => by
      obtain rfl : f = 6 := Option.some.inj ((show Tryz.prog.funcNamed "revetment/revetmentlaw11.PagesAll" = some 6 by kernel_rfl).symm.trans hf) |>.symm
      obtain rfl : fn = Tryz.f6 := (Option.some.inj (Tryz.func6.symm.trans hfn)).symm
      exact ⟨by kernel_rfl, fun j t ht => by
        rw [Tryz.params6] at ht
        have hm : t ∈ [22, 9, 52] := by simpa using Array.mem_of_getElem? ht
        have hall : ([22, 9, 52].all fun u => !Tryz.prog.wantsStandIn u) = true := by kernel_rfl
        exact (show Tryz.prog.wantsStandIn t = false by simpa using List.all_eq_true.1 hall t hm)⟩)
    (by kernel_rfl)
end Go.Proofs.YtlcoibfpebggoaaGreatDoor.pagesAll
