/- For every room and every keys the law LruOrder returns true: keys stand in the order in which they were wanted; without pins the one that goes is the last one (up to the law's own bound on lengths; beyond it the law says nothing). No condition. -/
import Derived.Test.YtmmhfkohfijlaaaLrOrd
import Derived.Deep.LoopGhost
import Derived.Maps.AppendAt
import Derived.Lib.JoinLaws
import Derived.ProofKit
import Derived.OpenShut
import Derived.Below
import Derived.ChangeOld
namespace Go.Proofs.Ytmmhfkohfijlaaa.lruOrder
open Go.ChangeShapes Go.WideShapes Go.ChangeAt Go.RowKit Lr
attribute [local go_sem] Oper.semAt_some

theorem add_zero' (x : Addr) : x.add 0 = x := by
  unfold Addr.add
  split <;> simp_all
theorem sliced_to (a : Option Addr) (N cap s : Nat) : sliced a 0 N cap s = .slice a N cap := by
  unfold sliced
  cases a with
  | none => simp
  | some x => simp [add_zero']
/-- 's[:n]' of a slice of ints -/
theorem slice_ints (a : Option Addr) (len cap N : Nat) (h : N ≤ cap) (W : World) :
    (Instr.slice 32 (.slice a len cap) none (some (.int .i64 (N : Nat))) none).run Try.prog W = .ok (.slice a N cap) W := by
  rw [run_slice_h W 32 a len cap (by kernel_rfl) .i64 (N : Int) (by omega) (by omega)]
  simp [sliced_to]
  go_simp

set_option maxRecDepth 100000 in
set_option maxHeartbeats 1000000 in
theorem walk_big (r : Int) (a : Option Addr) (n cap : Nat) (hn : 200 < n) (w : World) :
    Calls Try.prog 6 #[.int .u8 r, .slice a n cap] w fun e w' => e = .returned (.bool true) ∧ Below w.heap.size w w' := by
  have hn' : (200 : Int) < (n : Int) := by omega
  go_enter Try.func6, Try.ntmps6
  go_wp2_with fail
  refine (shown14_any w).mono ?_
  rintro e w1 ⟨rfl, b1⟩
  go_wp2
  go_ret
  exact ⟨rfl, b1⟩

/-- a row of the call's own that has something -/
theorem row_own {w : World} {base n : Nat} {v : Value} {l : List Int} (h : w.ownsRow base 3 1 v n (iV l)) (h0 : 0 < n) : ∃ g cap, v = .slice (some ⟨g, 0, none⟩) n cap ∧ base ≤ g ∧ n ≤ cap ∧ g < w.heap.size ∧ l.length = n ∧ RowI .i64 w (some ⟨g, 0, none⟩) n (fun j => l.getD j 0) := by
  have hn : l.length = n := by have := h.1; rw [List.length_map] at this; omega
  obtain ⟨a, cap, rfl, hR, hb⟩ := RowI.of_owns (k := .i64) h
  rcases h.2 with ⟨e, h1⟩ | ⟨g, cap', cur, e, hg, hc, r1, r2, r3, r4⟩
  · omega
  · injection e with e1 e2 e3
    subst e1 e3
    exact ⟨g, cap, rfl, hg, r1, (Array.getElem?_eq_some_iff.1 hc).1, hn, hR⟩
/-- a literal of one number -/
theorem row_lit (w : World) (x : Int) : (w.alloc (.cells #[.int .i64 x] 3)).ownsRow w.heap.size 3 1 (.slice (some ⟨w.heap.size, 0, none⟩) 1 1) 1 (iV [x]) :=
  ⟨rfl, .inr ⟨w.heap.size, 1, #[.int .i64 x], rfl, Nat.le_refl _, World.alloc_heap_new w _, Nat.le_refl _, by unfold maxLen; decide, rfl, rfl⟩⟩

/-- what stands between two rounds: the list, and the row that tells its keys -/
structure At (w0 : World) (p n : Nat) (wr : World) (wb : Nat) (l : L) : Prop where
  lru : ∃ F : Nat → Prop, LruAt wr p n l F ∧ (∀ k, F k → w0.heap.size ≤ k ∧ k < wr.heap.size) ∧ ¬ F wb
  row : ∀ t, t < l.length → wr.cell? ⟨wb, t, none⟩ = some (.int .i64 ((keys l).getD t 0))
  free : Free l
  below : Below w0.heap.size w0 wr
/-- one is put behind what the round has made -/
theorem At.put {w0 W wi w3 : World} {p n : Nat} {l1 : L} {F : Nat → Prop} (hF : ∀ k, F k → w0.heap.size ≤ k ∧ k < W.heap.size) (hb : Below w0.heap.size w0 W) (hW : Below W.heap.size W wi) {g : Nat} (hg : W.heap.size ≤ g) (hgl : g < wi.heap.size)
    (h3 : LruAt w3 p n l1 (Plus F wi.heap.size)) (ho : Only F wi w3) (hf : Free l1) {f : Nat → Int} {m : Nat} (hr : RowI .i64 wi (some ⟨g, 0, none⟩) m f) (hm : l1.length ≤ m) (he : ∀ t, t < l1.length → f t = (keys l1).getD t 0) : At w0 p n w3 g l1 := by
  refine ⟨⟨_, h3.tight, fun k hk => ?_, fun hk => ?_⟩, fun t ht => ?_, hf, (hb.trans (hW.mono hb.size)).trans (ho.below (fun k hk => (hF k hk).1) (Nat.le_trans hb.size hW.size))⟩
  · rcases hk with ⟨hk | hk, h2⟩
    · exact ⟨(hF k hk).1, h2⟩
    · exact ⟨Nat.le_trans (Nat.le_trans hb.size hW.size) hk, h2⟩
  · rcases hk with ⟨hk | hk, _⟩
    · have := (hF g hk).2; omega
    · omega
  · obtain ⟨b, o, hab, hc⟩ := hr t (by omega)
    injection hab with e1
    injection e1 with e2 e3
    subst e2 e3
    rw [Nat.zero_add, he t ht] at hc
    exact (World.cell?_of_block (a := ⟨g, t, none⟩) (ho.block g hgl (fun hk => by have := (hF g hk).2; omega))).trans hc
theorem At.later {w0 w3 w4 : World} {p n g : Nat} {l1 : L} (h : At w0 p n w3 g l1) (hb : Below w3.heap.size w3 w4) : At w0 p n w4 g l1 := by
  obtain ⟨⟨F, h1, h2, h3⟩, h4, h5, h6⟩ := h
  refine ⟨⟨F, h1.below hb, fun k hk => ⟨(h2 k hk).1, Nat.lt_of_lt_of_le (h2 k hk).2 hb.size⟩, h3⟩, fun t ht => ?_, h5, h6.trans (hb.mono h6.size)⟩
  exact (hb.cell (p := ⟨g, t, none⟩) (World.block_lt_of_cell? w3 _ (h4 t ht))).trans (h4 t ht)

set_option maxRecDepth 100000 in
set_option maxHeartbeats 8000000 in
theorem core (R q n : Nat) (hR : (R : Int).tmod 8 = (q : Int)) (hqn : (1 : Int) + (q : Int) = (n : Int)) (hn1 : 1 ≤ n) (hn8 : n ≤ 8) (hR8 : R < 256) (rows : List Nat) (hl : rows.length ≤ 200) (hl8 : ∀ j, rows.getD j 0 < 256) (a : Option Addr) (cap : Nat) (w : World)
    (hr : RowI .u8 w a rows.length (fun j => ((rows.getD j 0 : Nat) : Int))) :
    Calls Try.prog 6 #[.int .u8 (R : Nat), .slice a rows.length cap] w fun e w' => e = .returned (.bool true) ∧ Below w.heap.size w w' := by
  obtain ⟨N, hN⟩ : ∃ N, N = rows.length := ⟨_, rfl⟩
  rw [← hN] at hl hr ⊢
  have HR : Hid (RowI .u8 w a N (fun j => ((rows.getD j 0 : Nat) : Int))) := hr
  have H8 : Hid (∀ j, rows.getD j 0 < 256) := hl8
  have HN1 : Hid (1 ≤ n) := hn1
  have HN8 : Hid (n ≤ 8) := hn8
  have hn200 : ¬ (200 : Int) < (N : Int) := by omega
  clear hN hr hl8 hn1
  go_enter Try.func6, Try.ntmps6
  go_wp2_with fail
  refine (shown14_any w).mono ?_
  rintro e w1 ⟨rfl, b1⟩
  have B1 : Hid (Below w.heap.size w w1) := b1
  clear b1
  go_wp2_with fail
  refine (New_lru n HN1.out (by have := HN8.out; omega) w1).mono ?_
  rintro e w2 ⟨p, rfl, m2, b2⟩
  have M2 : Hid (LruAt w2 p n [] (fun k => w.heap.size ≤ k ∧ k < w2.heap.size)) := m2.tight.mono fun k hk => ⟨Nat.le_trans B1.out.size hk.1, hk.2⟩
  have B2 : Hid (Below w.heap.size w w2) := B1.out.trans (b2.mono B1.out.size)
  clear m2 b2 B1
  go_wp2_with fail
  have A0 : Hid (At w p n (w2.alloc (.cells #[] 3)) w2.heap.size []) := by
    have hb : Below w2.heap.size w2 (w2.alloc (.cells #[] 3)) := (Below.refl _ _).alloc (Nat.le_refl _) _
    exact ⟨⟨_, M2.out.below hb, fun k hk => ⟨hk.1, Nat.lt_of_lt_of_le hk.2 hb.size⟩, fun hk => Nat.lt_irrefl _ hk.2⟩, fun t ht => absurd ht (Nat.not_lt_zero _), fun x hx => absurd hx List.not_mem_nil, B2.out.trans (hb.mono B2.out.size)⟩
  clear M2 B2
  go_loopg [7, 8, 9, 10, 11, 12, 13, 14, 15, 16] N (fun g s7 s8 s9 s10 s11 s12 s13 s14 s15 s16 wr => ∃ (j : Nat) (l : L) (wb wc : Nat), j ≤ N ∧ g = N - j ∧ s7 = .slice (some ⟨wb, 0, none⟩) l.length wc ∧ s8 = .int .i64 (j : Int) ∧ At w p n wr wb l)
  case atStart => exact ⟨0, [], _, _, Nat.zero_le _, rfl, rfl, rfl, A0.out⟩
  case round =>
    obtain ⟨j, l, wb, wc, hj, rfl, rfl, rfl, hA⟩ := hrel
    clear A0
    obtain ⟨W, hW⟩ : ∃ W, W = wr := ⟨wr, rfl⟩
    subst hW
    by_cases hlt : j < N
    · obtain ⟨kb, ko, rfl, ck⟩ := HR.out j hlt
      dsimp only at ck
      have klt := World.block_lt_of_cell? w _ ck
      have ck0 := (hA.below.cell (p := ⟨kb, ko + j, none⟩) klt).trans ck
      obtain ⟨k, hk⟩ : ∃ k, k = rows.getD j 0 := ⟨_, rfl⟩
      have hk8 : k < 256 := by rw [hk]; exact H8.out j
      rw [← hk] at ck0
      have HA : Hid (At w p n W wb l) := hA
      obtain ⟨F, hlru, hFb, hFn⟩ := hA.lru
      have hok := hlru.ok
      have hO := ord_put hok hA.free (k := (k : Int)) (by omega) (by omega)
      obtain ⟨M, hM⟩ : ∃ M, M = l.length := ⟨_, rfl⟩
      have hMn : M ≤ n := by rw [hM]; exact hok.full
      obtain ⟨K, hK⟩ : ∃ K, K = keys l := ⟨_, rfl⟩
      have hKl : K.length = M := by rw [hK, keys_length, hM]
      have hrow := hA.row
      rw [← hM, ← hK] at hrow
      have HROW : Hid (∀ t, t < M → W.cell? ⟨wb, t, none⟩ = some (.int .i64 (K.getD t 0))) := hrow
      have HLRU : Hid (LruAt W p n l F) := hlru
      have HFB : Hid (∀ k, F k → w.heap.size ≤ k ∧ k < W.heap.size) := hFb
      have HKL : Hid (K.length = M) := hKl
      have HORD : Hid (Ord n l (k : Int)) := hO
      have HM : Hid (M = l.length) := hM
      have HKK : Hid (K = keys l) := hK
      have HBW : Hid (Below w.heap.size w W) := hA.below
      obtain ⟨i0, hi, hz0, hz1, hz2⟩ := info_parts (show (Try.prog.info? 3).map (fun i => (i.zero, i.size, i.bytes)) = some (some (.int .i64 0), 1, 8) by kernel_rfl)
      have HI0 : Hid (Try.prog.info? 3 = some i0 ∧ i0.zero = some (.int .i64 0) ∧ i0.size = 1 ∧ i0.bytes = 8) := ⟨hi, hz0, hz1, hz2⟩
      have hlen : l.length = M := hM.symm
      clear hA ck klt hk hlru hFb hFn hok hO hM hK hKl hrow hi hz0 hz1 hz2 HA
      rw [hlen]
      clear hlen
      go_wp2_with fail
      have HL0 := row_lit W (k : Int)
      have hbel0 : Below W.heap.size W (W.alloc (.cells #[.int .i64 (k : Int)] 3)) := (Below.refl _ _).alloc (Nat.le_refl _) _
      go_loopg [10, 11, 12] M (fun g s10 s11 s12 wi => ∃ (t : Nat), t ≤ M ∧ g = M - t ∧ s12 = .int .i64 (t : Int) ∧ s11 = .bool (ws (k : Int) K t) ∧ wi.ownsRow W.heap.size 3 1 s10 (nx (k : Int) K t).length (iV (nx (k : Int) K t)) ∧ Below W.heap.size W wi)
      case atStart => exact ⟨0, Nat.zero_le _, rfl, rfl, by rw [ws_zero], by rw [nx_zero]; exact HL0, hbel0⟩
      case round =>
        obtain ⟨t, ht, rfl, rfl, rfl, hown, hbel⟩ := hrel
        clear HL0 hbel0 ck0
        obtain ⟨X, hX⟩ : ∃ X, X = wr := ⟨wr, rfl⟩
        subst hX
        obtain ⟨v, hv⟩ : ∃ v, v = u10 := ⟨u10, rfl⟩
        subst hv
        have OWN : Hid (X.ownsRow W.heap.size 3 1 v (nx (k : Int) K t).length (iV (nx (k : Int) K t))) := hown
        have HB : Hid (Below W.heap.size W X) := hbel
        have hle := nx_length_le (k : Int) K t
        by_cases hlt2 : t < M
        · have cw := HROW.out t hlt2
          have cw2 := (hbel.cell (p := ⟨wb, t, none⟩) (World.block_lt_of_cell? W _ cw)).trans cw
          have hKt : t < K.length := by rw [HKL.out]; exact hlt2
          rw [getD_at' hKt] at cw2
          obtain ⟨x, hx⟩ : ∃ x, x = K[t] := ⟨_, rfl⟩
          rw [← hx] at cw2
          have hsz := hbel.size
          by_cases he : x = (k : Int)
          · have e1 := nx_same (k := (k : Int)) hKt (by rw [← hx]; exact he)
            have e2 := ws_same (k := (k : Int)) hKt (by rw [← hx]; exact he)
            have hxe : (x == (k : Int)) = true := by rw [he]; simp
            have E1 : Hid (nx (k : Int) K (t + 1) = nx (k : Int) K t) := e1
            have E2 : Hid (ws (k : Int) K (t + 1) = true) := e2
            clear cw hown hbel he hx e1 e2
            go_wp2_with fail
            go_roundg (M - (t + 1))
            case measure => omega
            case rel => exact ⟨t + 1, by omega, rfl, by go_num, by rw [E2.out], by rw [E1.out]; exact OWN.out, HB.out⟩
          · have e1 := nx_other (k := (k : Int)) hKt (by rw [← hx]; exact he)
            have e2 := ws_other (k := (k : Int)) hKt (by rw [← hx]; exact he)
            have hxe : (x == (k : Int)) = false := beq_false_of_ne he
            rw [← hx] at e1
            have E1 : Hid (nx (k : Int) K (t + 1) = nx (k : Int) K t ++ [x]) := e1
            have E2 : Hid (ws (k : Int) K (t + 1) = ws (k : Int) K t) := e2
            clear cw hown hbel he hx e1 e2
            obtain ⟨hi, hz0, hz1, hz2⟩ := HI0.out
            obtain ⟨m, hm⟩ : ∃ m, m = (nx (k : Int) K t).length := ⟨_, rfl⟩
            obtain ⟨A, hA⟩ : ∃ A, A = nx (k : Int) K t := ⟨_, rfl⟩
            obtain ⟨b0, hb0⟩ : ∃ b0, b0 = ws (k : Int) K t := ⟨_, rfl⟩
            rw [← hm, ← hA] at OWN
            rw [← hA] at E1
            rw [← hb0] at E2 ⊢
            have HMA : Hid (m = A.length) := by rw [hA]; exact hm
            rw [← hm] at hle
            clear hm hA hb0
            go_wp2_with (at_builtin; refine wpList_append_own _ rfl _ _ 32 rfl W.heap.size 3 i0 (.int .i64 0) 1 8 Try.underlying32 hi hz0 hz1 hz2 rfl (by decide) v m (iV A) rfl (OWN.out.alloc _) ⟨X.heap.size, 0, none⟩ 1 1 [.int .i64 x] rfl rfl (cell_one_new _ _ _) (by simp [Value.oneCell']) (by unfold maxLen; omega) (by omega) (by simp; omega) ?_; intro v' w1 hown' hgrow _; obtain ⟨g', cap', rfl⟩ := ownsRow_succ hown')
            have b4 := below_append OWN.out hsz hgrow
            go_roundg (M - (t + 1))
            case measure => omega
            case rel => exact ⟨t + 1, by omega, rfl, by go_num, by rw [E2.out], by rw [E1.out, List.length_append, ← HMA.out, ← iV_snoc]; exact hown', HB.out.trans b4⟩
        · have htM : t = M := by omega
          have hxx : ¬ (t : Int) < (M : Int) := by omega
          have OWN2 : X.ownsRow W.heap.size 3 1 v (nx (k : Int) K M).length (iV (nx (k : Int) K M)) := by rw [htM] at OWN; exact OWN.out
          obtain ⟨NX, hNX⟩ : ∃ NX, NX = nx (k : Int) K M := ⟨_, rfl⟩
          obtain ⟨b0, hb0⟩ : ∃ b0, b0 = ws (k : Int) K t := ⟨_, rfl⟩
          have hb1 : b0 = ws (k : Int) K M := by rw [hb0, htM]
          rw [← hNX] at OWN2
          rw [← hb0]
          have hpos : 0 < NX.length := by rw [hNX, nx, List.length_cons]; exact Nat.succ_pos _
          obtain ⟨g, cp, rfl, hg1, hg2, hg3, _, hrow⟩ := row_own OWN2 hpos
          have hO := HORD.out
          have hOe := hO.e
          have hOk := hO.keys
          have hOf := hO.few
          have hOm := hO.many
          rw [← HM.out, ← HKK.out, ← hNX] at hOk hOf hOm
          rw [← hb1] at hOm
          have hlru := HLRU.out.below HB.out
          have hfree := hO.free
          have hl1 : (put n l (k : Int)).length = (NX.take n).length := by rw [← keys_length, hOk]
          obtain ⟨m, hm⟩ : ∃ m, m = NX.length := ⟨_, rfl⟩
          have HAt : ∀ (w3 : World), LruAt w3 p n (put n l (k : Int)) (Plus F X.heap.size) → Only F X w3 → At w p n w3 g (put n l (k : Int)) := fun w3 h3 ho =>
            At.put HFB.out HBW.out HB.out hg1 hg3 h3 ho hfree hrow (by rw [hl1, List.length_take]; omega) (fun t ht => by
              rw [hOk, List.getD_eq_getElem?_getD, List.getD_eq_getElem?_getD, List.getElem?_take_of_lt (by rw [hl1, List.length_take] at ht; omega)])
          have HAT : Hid (∀ (w3 : World), LruAt w3 p n (put n l (k : Int)) (Plus F X.heap.size) → Only F X w3 → At w p n w3 g (put n l (k : Int))) := HAt
          have hput := Put_any hlru (k := (k : Int)) (ok_nat k (by omega))
          rw [hOe] at hput
          rw [← hm] at hOf hOm hg2 hrow hpos ⊢
          obtain ⟨l1, hl1e⟩ : ∃ l1, l1 = put n l (k : Int) := ⟨_, rfl⟩
          rw [← hl1e] at HAT hput hl1 hOk
          obtain ⟨G, hG⟩ : ∃ G, G = putG n l (k : Int) := ⟨_, rfl⟩
          obtain ⟨O, hOo⟩ : ∃ O, O = putW n l (k : Int) := ⟨_, rfl⟩
          rw [← hG, ← hOo] at hOm hput
          rw [← hOo] at hOf
          have HPUT : Hid (Calls Try.prog 16 #[.pointer (some ⟨p, 0, none⟩), .int .i64 (k : Int)] X fun r w' => r = .returned (.tuple #[.int .i64 G, .bool O, .int .i64 ((0 : Nat) : Int)]) ∧ LruAt w' p n l1 (Plus F X.heap.size) ∧ Only F X w') := hput
          have HL1 : Hid (l1.length = (NX.take n).length) := hl1
          have HMN : Hid (m = NX.length) := hm
          have HKEYS : Hid (keys l1 = NX.take n) := hOk
          have HROW3 : Hid (RowI .i64 X (some ⟨g, 0, none⟩) m (fun j => NX.getD j 0)) := hrow
          clear OWN OWN2 hown hbel hle hlt2 htM hb0 hb1 hNX hO hOe hOk hlru hfree hl1 hm HAt hput hl1e hG hOo hrow hg1
          by_cases hmn : n < m
          · obtain ⟨o1, o2, o3, o4, o5⟩ := hOm hmn
            have sl := slice_ints (some ⟨g, 0, none⟩) m cp n (by omega)
            obtain ⟨b, o, hab, cn⟩ := HROW3.out n hmn
            injection hab with q1
            injection q1 with q2 q3
            subst q2 q3
            dsimp only at cn
            rw [← o2, Nat.zero_add] at cn
            rw [o1] at HPUT
            rw [o4]
            have HML : Hid (l1.length = n) := by show _ = _; rw [HL1.out, List.length_take, ← HMN.out]; omega
            have t1 : decide (n < m) = true := decide_eq_true hmn
            have t2 : decide ((n : Int) < (m : Int)) = true := decide_eq_true (by omega)
            have t3 : decide (0 ≤ G) = true := decide_eq_true o3
            clear hOf hOm o1 o2 o4
            go_wp2_with fail
            refine HPUT.out.mono ?_
            rintro e w3 ⟨rfl, h3, ho3⟩
            have A3 : Hid (At w p n w3 g l1) := HAT.out w3 h3 ho3
            have hk3 := Keys_all h3
            rw [HML.out] at hk3
            have HK3 : Hid (Calls Try.prog 13 #[.pointer (some ⟨p, 0, none⟩)] w3 fun r w' => (∃ v, r = .returned v ∧ w'.ownsRow w3.heap.size 3 1 v n (iV (keys l1))) ∧ Below w3.heap.size w3 w') := hk3
            clear h3 ho3 hk3
            go_wp2_with fail
            refine HK3.out.mono ?_
            rintro e w4 ⟨⟨v, rfl, hown4⟩, hb4⟩
            obtain ⟨a4, c4, rfl, hR4, _⟩ := RowI.of_owns (k := .i64) hown4
            have A4 : Hid (At w p n w4 g l1) := A3.out.later hb4
            have HR4 : Hid (RowI .i64 w4 a4 n (fun j => (keys l1).getD j 0)) := hR4
            have HG4 : Hid (RowI .i64 w4 (some ⟨g, 0, none⟩) n (fun j => (keys l1).getD j 0)) := fun t ht => ⟨g, 0, rfl, by rw [Nat.zero_add]; exact A4.out.row t (by rw [HML.out]; exact ht)⟩
            clear hown4 hb4 hR4 HK3
            go_wp2_with fail
            refine (same_rows a4 (some ⟨g, 0, none⟩) n c4 cp _ (by have := HN8.out; omega) w4 HR4.out HG4.out).mono ?_
            rintro e w5 ⟨rfl, hb5⟩
            have A5 : Hid (At w p n w5 g l1) := A4.out.later hb5
            have hml := HML.out
            clear hb5
            go_wp2_with fail
            go_roundg (N - (j + 1))
            case measure => omega
            case rel => exact ⟨j + 1, l1, g, cp, by omega, rfl, by rw [hml], by go_num, A5.out⟩
          · have o1 := hOf (by omega)
            rw [o1] at HPUT
            have HML : Hid (l1.length = m) := by show _ = _; rw [HL1.out, List.length_take, ← HMN.out]; omega
            have hm9 : m ≤ n := by omega
            have t1 : decide (n < m) = false := decide_eq_false hmn
            have t2 : decide ((n : Int) < (m : Int)) = false := decide_eq_false (by omega)
            clear hOf hOm o1 hmn
            cases b0 with
            | false =>
              go_wp2_with fail
              refine HPUT.out.mono ?_
              rintro e w3 ⟨rfl, h3, ho3⟩
              have A3 : Hid (At w p n w3 g l1) := HAT.out w3 h3 ho3
              have hk3 := Keys_all h3
              rw [HML.out] at hk3
              have HK3 : Hid (Calls Try.prog 13 #[.pointer (some ⟨p, 0, none⟩)] w3 fun r w' => (∃ v, r = .returned v ∧ w'.ownsRow w3.heap.size 3 1 v m (iV (keys l1))) ∧ Below w3.heap.size w3 w') := hk3
              clear h3 ho3 hk3
              go_wp2_with fail
              refine HK3.out.mono ?_
              rintro e w4 ⟨⟨v, rfl, hown4⟩, hb4⟩
              obtain ⟨a4, c4, rfl, hR4, _⟩ := RowI.of_owns (k := .i64) hown4
              have A4 : Hid (At w p n w4 g l1) := A3.out.later hb4
              have HR4 : Hid (RowI .i64 w4 a4 m (fun j => (keys l1).getD j 0)) := hR4
              have HG4 : Hid (RowI .i64 w4 (some ⟨g, 0, none⟩) m (fun j => (keys l1).getD j 0)) := fun t ht => ⟨g, 0, rfl, by rw [Nat.zero_add]; exact A4.out.row t (by rw [HML.out]; exact ht)⟩
              clear hown4 hb4 hR4 HK3
              go_wp2_with fail
              refine (same_rows a4 (some ⟨g, 0, none⟩) m c4 cp _ (by have := HN8.out; omega) w4 HR4.out HG4.out).mono ?_
              rintro e w5 ⟨rfl, hb5⟩
              have A5 : Hid (At w p n w5 g l1) := A4.out.later hb5
              have hml := HML.out
              clear hb5
              go_wp2_with fail
              go_roundg (N - (j + 1))
              case measure => omega
              case rel => exact ⟨j + 1, l1, g, cp, by omega, rfl, by rw [hml], by go_num, A5.out⟩
            | true =>
              go_wp2_with fail
              refine HPUT.out.mono ?_
              rintro e w3 ⟨rfl, h3, ho3⟩
              have A3 : Hid (At w p n w3 g l1) := HAT.out w3 h3 ho3
              have hk3 := Keys_all h3
              rw [HML.out] at hk3
              have HK3 : Hid (Calls Try.prog 13 #[.pointer (some ⟨p, 0, none⟩)] w3 fun r w' => (∃ v, r = .returned v ∧ w'.ownsRow w3.heap.size 3 1 v m (iV (keys l1))) ∧ Below w3.heap.size w3 w') := hk3
              clear h3 ho3 hk3
              go_wp2_with fail
              refine HK3.out.mono ?_
              rintro e w4 ⟨⟨v, rfl, hown4⟩, hb4⟩
              obtain ⟨a4, c4, rfl, hR4, _⟩ := RowI.of_owns (k := .i64) hown4
              have A4 : Hid (At w p n w4 g l1) := A3.out.later hb4
              have HR4 : Hid (RowI .i64 w4 a4 m (fun j => (keys l1).getD j 0)) := hR4
              have HG4 : Hid (RowI .i64 w4 (some ⟨g, 0, none⟩) m (fun j => (keys l1).getD j 0)) := fun t ht => ⟨g, 0, rfl, by rw [Nat.zero_add]; exact A4.out.row t (by rw [HML.out]; exact ht)⟩
              clear hown4 hb4 hR4 HK3
              go_wp2_with fail
              refine (same_rows a4 (some ⟨g, 0, none⟩) m c4 cp _ (by have := HN8.out; omega) w4 HR4.out HG4.out).mono ?_
              rintro e w5 ⟨rfl, hb5⟩
              have A5 : Hid (At w p n w5 g l1) := A4.out.later hb5
              have hml := HML.out
              clear hb5
              go_wp2_with fail
              go_roundg (N - (j + 1))
              case measure => omega
              case rel => exact ⟨j + 1, l1, g, cp, by omega, rfl, by rw [hml], by go_num, A5.out⟩
    · have hx : ¬ (j : Int) < (N : Int) := by omega
      have HB : Hid (Below w.heap.size w W) := hA.below
      clear hA
      go_wp2
      go_ret
      exact ⟨rfl, HB.out⟩

theorem walk (w : World) (a0 : Int) (w0 : (Lit.int .u8 a0).wf = true) (a1 : Option Addr) (len1 cap1 : Nat) (z1 : List Int) (w1 : IsRow .u8 w a1 len1 cap1 z1) :
    Calls Try.prog 6 #[.int .u8 a0, .slice a1 len1 cap1] w fun e w' => e = .returned (.bool true) ∧ Below w.heap.size w w' := by
  by_cases hb : 200 < len1
  · exact walk_big a0 a1 len1 cap1 hb w
  · obtain ⟨rows, hlen, _, h8, hrow⟩ := w1.rowN 256 (by decide) (fun x hx => by have := bounds_u8 hx; omega)
    subst hlen
    have h1 := bounds_u8 w0
    obtain ⟨R, rfl⟩ : ∃ R : Nat, a0 = (R : Int) := ⟨a0.toNat, by omega⟩
    exact core R (R % 8) (1 + R % 8) (by rw [Int.tmod_eq_emod_of_nonneg (by omega)]; omega) (by omega) (by omega) (by omega) (by omega) rows (by omega) h8 a1 cap1 w hrow

theorem own : ownKnob Try.prog.godebug = none := by kernel_rfl
theorem laidOut : laidOutB Try.prog = true := by kernel_rfl
set_option linter.unusedVariables false in
set_option maxRecDepth 100000 in
theorem lifted (os : Os) (started : os.Started) (H : Type) (enc : TypeId × Value → H) :
    ReturnsInHanded {} Try.checked os 6 .any (Rows.lruOrderSpec.pre6 enc Try.prog Try.f6 Rows.lruOrderRow.domain false) (Rows.lruOrderSpec.post enc Try.prog Try.f6 false true false false) := by
  refine returnsInHanded_of_change (C := Try.checked) own started (by kernel_rfl) Try.func6
    (ChangeSpec.witness6 (enc := enc) (C := Try.checked) false ⟨#[], #[.int .u8 0, .slice none 0 0], []⟩ 8 (by kernel_rfl) (by kernel_rfl) (by kernel_rfl) (by kernel_rfl)) ?_
  intro W base args ds gs before hval0 hW hcnd _
  have hval : ∀ (j : Nat) t v, Try.f6.params[j]? = some t → args[j]? = some v → Value.okWide Try.prog W .any base t v := hval0
  have hW' := hW
  obtain ⟨p, q, hA0, hV, rfl, hfz, hnd⟩ := hW
  have hA : DataW.TrodAll enc Try.prog W 0 (fun _ => true) true Try.f6.params.toList args.toList ds p := hA0
  rw [Try.params6] at hA hval
  obtain ⟨v0, vs0, d0, ds0, p0, q0, hargs, rfl, rfl, h0, r0⟩ := trodAll_cons hA
  obtain ⟨v1, vs1, d1, ds1, p1, q1, rfl, rfl, rfl, h1, r1⟩ := trodAll_cons r0
  obtain ⟨rfl, rfl, rfl⟩ := trodAll_nil r1
  obtain rfl : args = #[v0, v1] := by cases args; simp_all
  obtain ⟨rfl, rfl⟩ := trodVars_none hV
  obtain ⟨a0, rfl, rfl, rfl, w0⟩ := open_int Try.underlying5 (hval 0 5 v0 rfl rfl) h0
  obtain ⟨a1, len1, cap1, rfl⟩ := okWide_slice Try.underlying38 (hval 1 38 v1 rfl rfl)
  have k1 := h1
  have lt1 : ∀ x ∈ p1, x.block < W.heap.size := by obtain ⟨m, hm⟩ := k1; exact DataW.trod_lt m _ _ _ hm
  obtain ⟨z1, w1⟩ : ∃ zs, IsRow .u8 W a1 len1 cap1 zs := by
    obtain ⟨fuel, hf⟩ := h1
    rcases open_ints Try.underlying38 Try.underlying5 (by kernel_rfl) hf with ⟨hcs, _⟩ | ⟨x, l, c, zs, hcs, _, hl, hm, hz, _, hcell, hwz⟩
    · simp [Value.cells] at hcs
      obtain ⟨rfl, rfl, rfl⟩ := hcs
      exact ⟨[], .inl ⟨rfl, rfl, rfl, rfl⟩⟩
    · simp [Value.cells] at hcs
      obtain ⟨rfl, rfl, rfl⟩ := hcs
      exact ⟨zs, .inr ⟨_, rfl, hl, hm, by simpa using hz, hcell, hwz⟩⟩
  clear hA0 hval0
  simp only [List.append_nil] at hW'
  refine (walk W a0 w0 a1 len1 cap1 z1 w1).mono fun e W' ⟨he, hg⟩ => ?_
  subst he
  exact ⟨_, rfl, _, _, _, [], _, [], hW', trodAll_mk1 (shut_bool Try.underlying4 _), (trodAll_cons_mk (shut_int Try.underlying5 w0) (trodAll_cons_mk (Below.trod laidOut (by kernel_rfl) (of_decide_eq_true (by kernel_rfl)) k1 hg lt1) trodAll_mk0)), rfl, hg.frame _, fun h => by cases h⟩
/-- For every input the law returns true, and each argument reads as it did. -/
theorem proved : Rows.LruOrderSaid :=
  OpenClaim.holds_of_wide 6 Try.f6 rfl rfl rfl rfl rfl rfl rfl ⟨rfl, rfl, rfl, rfl, rfl⟩ rfl rfl rfl rfl rfl (by kernel_rfl) Try.func6 (by kernel_rfl)
    (of_decide_eq_true (by kernel_rfl)) (by unfold Func.isWrapper; first | (rw [if_pos (by decide +kernel)]; kernel_rfl) | (rw [if_neg (by decide +kernel)]; exact ⟨rfl, rfl⟩))
    (fun os started H enc _ => lifted os started H enc)
end Go.Proofs.Ytmmhfkohfijlaaa.lruOrder
