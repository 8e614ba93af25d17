/- Several texts in one. The walk of the bound of the law RingActs, and of its comparison of records. The law RingActs: what it begins by, and the pieces of its round. The bound of the law RingActs, told whole; and the law where it holds not. -/
import Derived.Test.YtjmeiifogblmoaaGreatDoorMRecD
import Derived.Test.YtjmeiifogblmoaaGreatDoorRiKit
import Derived.Test.YtjmeiifogblmoaaGreatDoorMR13
import Derived.Test.YtjmeiifogblmoaaGreatDoorRef12Same
import Derived.Deep.LoopGhost
import Derived.Test.YtjmeiifogblmoaaGreatDoorMRiC
namespace Go.Proofs.YtjmeiifogblmoaaGreatDoor
open Go.RowKit

def ActLight (x : Act13) : Prop := Ri.Light13 x.sn x.s ∧ x.pn ≤ 50 ∧ x.kn ≤ 50 ∧ ∀ q, q < x.pn → (x.p q).data.size ≤ 100
def Light13L (n : Nat) (f : Nat → Act13) : Prop := n ≤ 40 ∧ ∀ j, j < n → ActLight (f j)
set_option maxRecDepth 100000 in
set_option maxHeartbeats 1000000 in
theorem weighs13_nil (w : World) (a : Option Addr) (cap : Nat) : Calls Tryz.prog 8 #[.slice a 0 cap] w fun e w' => w' = w ∧ e = .returned (.bool false) := by
  go_enter Tryz.func8, Tryz.ntmps8
  go_wp2
  go_loopg [3] 0 (fun gg i wr => gg = 0 ∧ i = .int .i64 0 ∧ wr = w)
  case atStart => exact ⟨rfl, rfl, rfl⟩
  case round =>
    obtain ⟨rfl, rfl, rfl⟩ := hrel
    go_wp2
    go_ret
    exact ⟨rfl, rfl⟩
set_option maxRecDepth 100000 in
set_option maxHeartbeats 4000000 in
theorem weighs13_some (w : World) (b off n cap : Nat) (f : Nat → Act13) (hA : ∀ j, j < n → ActAt13 w b (off + j * 5) (f j)) (hn : n ≤ maxLen) :
    Calls Tryz.prog 8 #[.slice (some ⟨b, off, none⟩) n cap] w fun e w' => w' = w ∧ (e = .returned (.bool true) ∨ e = .returned (.bool false) ∧ Light13L n f) := by
  unfold maxLen at hn
  by_cases h40 : (40 : Int) < (n : Int)
  · go_enter Tryz.func8, Tryz.ntmps8
    go_wp2
    go_ret
    exact ⟨rfl, .inl rfl⟩
  · have hn2 : n ≤ 40 := by omega
    have HA : Hid (∀ j, j < n → ActAt13 w b (off + j * 5) (f j)) := hA
    clear hA
    go_enter Tryz.func8, Tryz.ntmps8
    go_wp2
    go_loopg [3] n (fun gg i wr => ∃ k : Nat, k ≤ n ∧ gg = n - k ∧ i = .int .i64 k ∧ wr = w ∧ ∀ j, j < k → ActLight (f j))
    case atStart => exact ⟨0, Nat.zero_le _, rfl, rfl, rfl, fun j hj => absurd hj (Nat.not_lt_zero _)⟩
    case round =>
      obtain ⟨k, hk, rfl, rfl, rfl, hl⟩ := hrel
      have HL : Hid (∀ j, j < k → ActLight (f j)) := hl
      clear hl
      by_cases hlt : k < n
      case neg =>
        have hkn : k = n := by omega
        subst hkn
        go_wp2
        go_ret
        exact ⟨rfl, .inr ⟨rfl, hn2, HL.out⟩⟩
      case pos =>
        obtain ⟨_, _, c2, c3, c4, hok⟩ := HA.out k hlt
        have hhv := heavy13_any wr (f k).sa (f k).sn (f k).sc (f k).s hok.sr hok.ss hok.sm
        have hpm := hok.pm
        have hkm := hok.km
        have HOk : Hid (ActOk wr (f k)) := hok
        obtain ⟨pn, hpn⟩ : ∃ pn, pn = (f k).pn := ⟨_, rfl⟩
        obtain ⟨kn, hkn⟩ : ∃ kn, kn = (f k).kn := ⟨_, rfl⟩
        obtain ⟨sn, hsn⟩ : ∃ sn, sn = (f k).sn := ⟨_, rfl⟩
        obtain ⟨sa, hsa⟩ : ∃ sa, sa = (f k).sa := ⟨_, rfl⟩
        obtain ⟨sc, hsc⟩ : ∃ sc, sc = (f k).sc := ⟨_, rfl⟩
        obtain ⟨pa, hpa⟩ : ∃ pa, pa = (f k).pa := ⟨_, rfl⟩
        obtain ⟨pc, hpc⟩ : ∃ pc, pc = (f k).pc := ⟨_, rfl⟩
        obtain ⟨ka, hka⟩ : ∃ ka, ka = (f k).ka := ⟨_, rfl⟩
        obtain ⟨kc, hkc⟩ : ∃ kc, kc = (f k).kc := ⟨_, rfl⟩
        rw [← hsa, ← hsn, ← hsc] at c2 hhv
        rw [← hpa, ← hpn, ← hpc] at c3
        rw [← hka, ← hkn, ← hkc] at c4
        rw [← hpn] at hpm
        rw [← hkn] at hkm
        have HE : Hid (pn = (f k).pn ∧ kn = (f k).kn ∧ sn = (f k).sn ∧ pa = (f k).pa) := ⟨hpn, hkn, hsn, hpa⟩
        have hki : (k : Int) < (n : Int) := by omega
        unfold maxLen at hpm hkm
        clear hpn hkn hsn hsa hsc hpa hpc hka hkc hok
        go_wp2_with fail
        refine hhv.mono ?_
        rintro e w1 ⟨rfl, ⟨rfl, _⟩ | ⟨rfl, hlt1⟩⟩
        · go_wp2
          go_ret
          exact ⟨rfl, .inl rfl⟩
        have HL1 : Hid (Ri.Light13 (f k).sn (f k).s) := by rw [← HE.out.2.2.1]; exact hlt1
        clear hlt1 hhv
        by_cases h1 : (50 : Int) < (pn : Int)
        · go_wp2
          go_ret
          exact ⟨rfl, .inl rfl⟩
        by_cases h2 : (50 : Int) < (kn : Int)
        · go_wp2
          go_ret
          exact ⟨rfl, .inl rfl⟩
        have HN : Hid (pn ≤ 50 ∧ kn ≤ 50) := ⟨by omega, by omega⟩
        go_wp2
        go_loopg [4] pn (fun gg i wq => ∃ q : Nat, q ≤ pn ∧ gg = pn - q ∧ i = .int .i64 (q : Int) ∧ wq = w1 ∧ ∀ j, j < q → ((f k).p j).data.size ≤ 100)
        case atStart => exact ⟨0, Nat.zero_le _, rfl, rfl, rfl, fun j hj => absurd hj (Nat.not_lt_zero _)⟩
        case round =>
          obtain ⟨q, hq, rfl, rfl, rfl, hl⟩ := hrel
          have HQ : Hid (∀ j, j < q → ((f k).p j).data.size ≤ 100) := hl
          clear hl
          by_cases hqt : q < pn
          case neg =>
            have hqn : q = pn := by omega
            have hqi : ¬ (q : Int) < (pn : Int) := by omega
            have HAl : Hid (ActLight (f k)) := ⟨HL1.out, by rw [← HE.out.1]; exact HN.out.1, by rw [← HE.out.2.1]; exact HN.out.2, fun j hj => HQ.out j (by rw [← HE.out.1, ← hqn] at hj; exact hj)⟩
            clear hqn hqt hq
            go_wp2
            go_roundg (n - (k + 1))
            case measure => omega
            case rel => exact ⟨k + 1, by omega, rfl, by go_num, rfl, fun j hj => by
              by_cases e : j = k
              · rw [e]; exact HAl.out
              · exact HL.out j (by omega)⟩
          case pos =>
            have hqi : (q : Int) < (pn : Int) := by omega
            obtain ⟨bp, op, hpe, hpp⟩ := HOk.out.pr q (by rw [← HE.out.1]; exact hqt)
            rw [← HE.out.2.2.2] at hpe
            subst hpe
            have p2 := hpp.c2
            have hsz := (HOk.out.pw q (by rw [← HE.out.1]; exact hqt)).2.2
            obtain ⟨s, hs⟩ : ∃ s, s = ((f k).p q).data := ⟨_, rfl⟩
            rw [← hs] at p2 hsz
            have HS : Hid (s = ((f k).p q).data) := hs
            unfold maxLen at hsz
            clear hs hpp
            by_cases h3 : (100 : Int) < (s.size : Int)
            · go_wp2
              go_ret
              exact ⟨rfl, .inl rfl⟩
            · go_wp2
              go_roundg (pn - (q + 1))
              case measure => omega
              case rel => exact ⟨q + 1, by omega, rfl, by go_num, rfl, fun j hj => by
                by_cases e : j = q
                · rw [e, ← HS.out]; omega
                · exact HQ.out j (by omega)⟩
set_option maxRecDepth 100000 in
set_option maxHeartbeats 4000000 in
/-- two rows of the same records are the same -/
theorem same13_yes (a a' : Option Addr) (n cap cap' : Nat) (R : Nat → RecT) (w : World) (hn : n ≤ 10000) (hp : RecsR w a n R) (hq : RecsR w a' n R) (hk : ∀ j, j < n → (R j).n ≤ 1000) :
    Calls Tryz.prog 26 #[.slice a n cap, .slice a' n cap'] w fun e w' => e = .returned (.bool true) ∧ Below w.heap.size w w' := by
  have HP : Hid (RecsR w a n R) := hp
  have HQ : Hid (RecsR w a' n R) := hq
  have HK : Hid (∀ j, j < n → (R j).n ≤ 1000) := hk
  have hnn : ((n : Int) != (n : Int)) = false := by simp
  have HMX : Hid (Tryz.prog.follows .mixedOrders = true) := by show _ = _; kernel_rfl
  clear hp hq hk
  go_enter Tryz.func26, Tryz.ntmps26
  go_wp2
  go_loopg [5] n (fun gg i wr => ∃ j : Nat, j ≤ n ∧ gg = n - j ∧ i = .int .i64 (j : Int) ∧ Below w.heap.size w wr)
  case atStart => exact ⟨0, Nat.zero_le _, rfl, rfl, Below.refl _ _⟩
  case round =>
  obtain ⟨j, hj, rfl, rfl, hb⟩ := hrel
  have HB : Hid (Below w.heap.size w wr) := hb
  by_cases hlt : j < n
  case neg =>
    have hjn : j = n := by omega
    have hji : ¬ (j : Int) < (n : Int) := by omega
    clear hjn hlt hj hb
    go_wp2
    go_ret
    exact ⟨rfl, HB.out⟩
  case pos =>
  have hji : (j : Int) < (n : Int) := by omega
  obtain ⟨b, o, ap, cp, rfl, c0, c1, c2, hpp⟩ := HP.out.below hb j hlt
  obtain ⟨b', o', ap', cp', rfl, d0, d1, d2, hpp'⟩ := HQ.out.below hb j hlt
  have hk := HK.out j hlt
  generalize R j = x at c0 c1 c2 hpp d0 d1 d2 hpp' hk
  obtain ⟨s, r, m, f⟩ := x
  try dsimp only at c0 c1 c2 hpp d0 d1 d2 hpp' hk
  have HPp : Hid (∀ W, Below wr.heap.size wr W → PartsR W ap m f) := fun W hW => hpp.below hW
  have HPp' : Hid (∀ W, Below wr.heap.size wr W → PartsR W ap' m f) := fun W hW => hpp'.below hW
  have HTh : Hid (∀ W, Below wr.heap.size wr W → Calls Tryz.prog 30 #[.slice ap m cp] W fun e w' => ∃ a2 c2, e = .returned (.slice a2 m c2) ∧ PartsR w' a2 m f ∧ Below W.heap.size W w') := fun W hW => theirs13_any ap m cp f W hk (HPp.out W hW)
  have HSm : Hid (∀ W a2 c2, PartsR W a2 m f → Below wr.heap.size wr W → Calls Tryz.prog 37 #[.agg #[.int .u64 (s : Int), .int .i64 r, .slice a2 m c2], .agg #[.int .u64 (s : Int), .int .i64 r, .slice ap' m cp']] W fun e w' => e = .returned (.bool true) ∧ Below W.heap.size W w') := fun W a2 c2 h1 hW => by
    have := rSame12_any s s m m c2 cp' r r a2 ap' f f W (by omega) h1 (HPp'.out W hW)
    rw [(Rc.sameR_iff _ _ _ _ _ _ _ _).2 ⟨rfl, rfl, rfl, fun _ _ => rfl⟩] at this
    exact this
  have HKeep : Hid (∀ W, Below wr.heap.size wr W → W.cell? ⟨b, o + j * 3, none⟩ = some (.int .u64 (s : Int)) ∧ W.cell? ⟨b, o + j * 3 + 1, none⟩ = some (.int .i64 r) ∧ W.cell? ⟨b, o + j * 3 + 2, none⟩ = some (.slice ap m cp) ∧ W.cell? ⟨b', o' + j * 3, none⟩ = some (.int .u64 (s : Int)) ∧ W.cell? ⟨b', o' + j * 3 + 1, none⟩ = some (.int .i64 r) ∧ W.cell? ⟨b', o' + j * 3 + 2, none⟩ = some (.slice ap' m cp')) := fun W hW =>
    ⟨(hW.cell (p := ⟨b, o + j * 3, none⟩) (World.block_lt_of_cell? wr _ c0)).trans c0, (hW.cell (p := ⟨b, o + j * 3 + 1, none⟩) (World.block_lt_of_cell? wr _ c1)).trans c1, (hW.cell (p := ⟨b, o + j * 3 + 2, none⟩) (World.block_lt_of_cell? wr _ c2)).trans c2, (hW.cell (p := ⟨b', o' + j * 3, none⟩) (World.block_lt_of_cell? wr _ d0)).trans d0, (hW.cell (p := ⟨b', o' + j * 3 + 1, none⟩) (World.block_lt_of_cell? wr _ d1)).trans d1, (hW.cell (p := ⟨b', o' + j * 3 + 2, none⟩) (World.block_lt_of_cell? wr _ d2)).trans d2⟩
  clear hpp hpp' c0 c1 c2 d0 d1 d2 hb hk
  go_upto_region 6 with fail
  have hS : (fun W : World => W.cell? ⟨b, o + j * 3, none⟩ = some (.int .u64 (s : Int)) ∧ W.cell? ⟨b, o + j * 3 + 1, none⟩ = some (.int .i64 r) ∧ W.cell? ⟨b, o + j * 3 + 2, none⟩ = some (.slice ap m cp) ∧ W.cell? ⟨b', o' + j * 3, none⟩ = some (.int .u64 (s : Int)) ∧ W.cell? ⟨b', o' + j * 3 + 1, none⟩ = some (.int .i64 r) ∧ W.cell? ⟨b', o' + j * 3 + 2, none⟩ = some (.slice ap' m cp')) wr.drew := HKeep.out _ (Below.refl _ _).drew
  refine wp_region_held (S := (fun W : World => W.cell? ⟨b, o + j * 3, none⟩ = some (.int .u64 (s : Int)) ∧ W.cell? ⟨b, o + j * 3 + 1, none⟩ = some (.int .i64 r) ∧ W.cell? ⟨b, o + j * 3 + 2, none⟩ = some (.slice ap m cp) ∧ W.cell? ⟨b', o' + j * 3, none⟩ = some (.int .u64 (s : Int)) ∧ W.cell? ⟨b', o' + j * 3 + 1, none⟩ = some (.int .i64 r) ∧ W.cell? ⟨b', o' + j * 3 + 2, none⟩ = some (.slice ap' m cp'))) HMX.out ?_
  change wpAnyH _ _ _ _ _ _ _ _ wr.drew
  refine held_quiet 0 (v := ?v0q1) rfl (by kernel_rfl) (fun _ _ _ h => h) (by assumption) rfl ?hy0q1 ?rest0q1
  case hy0q1 => (intro wS hSw; (try dsimp only at hSw); go_simp; try with_reducible rfl)
  try simp only [Act.put, List.setIfInBounds_toArray, List.set_cons_zero, List.set_cons_succ]
  refine held_quiet 1 (v := ?v1q2) rfl (by kernel_rfl) (fun _ _ _ h => h) (by assumption) rfl ?hy1q2 ?rest1q2
  case hy1q2 => (intro wS hSw; (try dsimp only at hSw); go_simp; try with_reducible rfl)
  try simp only [Act.put, List.setIfInBounds_toArray, List.set_cons_zero, List.set_cons_succ]
  refine held_quiet 2 (v := ?v2q3) rfl (by kernel_rfl) (fun _ _ _ h => h) (by assumption) rfl ?hy2q3 ?rest2q3
  case hy2q3 => (intro wS hSw; (try dsimp only at hSw); go_simp; try with_reducible rfl)
  try simp only [Act.put, List.setIfInBounds_toArray, List.set_cons_zero, List.set_cons_succ]
  refine held_quiet 3 (v := ?v3q4) rfl (by kernel_rfl) (fun _ _ _ h => h) (by assumption) rfl ?hy3q4 ?rest3q4
  case hy3q4 => (intro wS hSw; (try dsimp only at hSw); go_simp; try with_reducible rfl)
  try simp only [Act.put, List.setIfInBounds_toArray, List.set_cons_zero, List.set_cons_succ]
  refine held_quiet 4 (v := ?v4q5) rfl (by kernel_rfl) (fun _ _ _ h => h) (by assumption) rfl ?hy4q5 ?rest4q5
  case hy4q5 => (intro wS hSw; (try dsimp only at hSw); go_simp; try with_reducible rfl)
  try simp only [Act.put, List.setIfInBounds_toArray, List.set_cons_zero, List.set_cons_succ]
  refine held_quiet 5 (v := ?v5q6) rfl (by kernel_rfl) (fun _ _ _ h => h) (by assumption) rfl ?hy5q6 ?rest5q6
  case hy5q6 => (intro wS hSw; (try dsimp only at hSw); go_simp; try with_reducible rfl)
  try simp only [Act.put, List.setIfInBounds_toArray, List.set_cons_zero, List.set_cons_succ]
  refine held_quiet 6 (v := ?v6q7) rfl (by kernel_rfl) (fun _ _ _ h => h) (by assumption) rfl ?hy6q7 ?rest6q7
  case hy6q7 => (intro wS hSw; (try dsimp only at hSw); go_simp; try with_reducible rfl)
  try simp only [Act.put, List.setIfInBounds_toArray, List.set_cons_zero, List.set_cons_succ]
  refine held_quiet 7 (v := ?v7q8) rfl (by kernel_rfl) (fun _ _ _ h => h) (by assumption) rfl ?hy7q8 ?rest7q8
  case hy7q8 => (intro wS hSw; (try dsimp only at hSw); go_simp; try with_reducible rfl)
  try simp only [Act.put, List.setIfInBounds_toArray, List.set_cons_zero, List.set_cons_succ]
  refine held_quiet 8 (v := ?v8q9) rfl (by kernel_rfl) (fun _ _ _ h => h) (by assumption) rfl ?hy8q9 ?rest8q9
  case hy8q9 => (intro wS hSw; (try dsimp only at hSw); go_simp; try with_reducible rfl)
  try simp only [Act.put, List.setIfInBounds_toArray, List.set_cons_zero, List.set_cons_succ]
  refine held_quiet 9 (v := ?v9q10) rfl (by kernel_rfl) (fun _ _ _ h => h) (by assumption) rfl ?hy9q10 ?rest9q10
  case hy9q10 => (intro wS hSw; (try dsimp only at hSw); go_simp; try with_reducible rfl)
  try simp only [Act.put, List.setIfInBounds_toArray, List.set_cons_zero, List.set_cons_succ]
  refine held_quiet 10 (v := ?v10q11) rfl (by kernel_rfl) (fun _ _ _ h => h) (by assumption) rfl ?hy10q11 ?rest10q11
  case hy10q11 => (intro wS hSw; (try dsimp only at hSw); go_simp; try with_reducible rfl)
  try simp only [Act.put, List.setIfInBounds_toArray, List.set_cons_zero, List.set_cons_succ]
  refine held_quiet 11 (v := ?v11q12) rfl (by kernel_rfl) (fun _ _ _ h => h) (by assumption) rfl ?hy11q12 ?rest11q12
  case hy11q12 => (intro wS hSw; (try dsimp only at hSw); go_simp; try with_reducible rfl)
  try simp only [Act.put, List.setIfInBounds_toArray, List.set_cons_zero, List.set_cons_succ]
  refine held_quiet 12 (v := ?v12q13) rfl (by kernel_rfl) (fun _ _ _ h => h) (by assumption) rfl ?hy12q13 ?rest12q13
  case hy12q13 => (intro wS hSw; (try dsimp only at hSw); go_simp; try with_reducible rfl)
  try simp only [Act.put, List.setIfInBounds_toArray, List.set_cons_zero, List.set_cons_succ]
  refine held_quiet 13 (v := ?v13q14) rfl (by kernel_rfl) (fun _ _ _ h => h) (by assumption) rfl ?hy13q14 ?rest13q14
  case hy13q14 => (intro wS hSw; (try dsimp only at hSw); go_simp; try with_reducible rfl)
  try simp only [Act.put, List.setIfInBounds_toArray, List.set_cons_zero, List.set_cons_succ]
  refine held_quiet 14 (v := ?v14q15) rfl (by kernel_rfl) (fun _ _ _ h => h) (by assumption) rfl ?hy14q15 ?rest14q15
  case hy14q15 => (intro wS hSw; (try dsimp only at hSw); go_simp; try with_reducible rfl)
  try simp only [Act.put, List.setIfInBounds_toArray, List.set_cons_zero, List.set_cons_succ]
  refine held_quiet 17 (v := ?v17q16) rfl (by kernel_rfl) (fun _ _ _ h => h) (by assumption) rfl ?hy17q16 ?rest17q16
  case hy17q16 => (intro wS hSw; (try dsimp only at hSw); go_simp; try with_reducible rfl)
  try simp only [Act.put, List.setIfInBounds_toArray, List.set_cons_zero, List.set_cons_succ]
  refine held_quiet 18 (v := ?v18q17) rfl (by kernel_rfl) (fun _ _ _ h => h) (by assumption) rfl ?hy18q17 ?rest18q17
  case hy18q17 => (intro wS hSw; (try dsimp only at hSw); go_simp; try with_reducible rfl)
  try simp only [Act.put, List.setIfInBounds_toArray, List.set_cons_zero, List.set_cons_succ]
  refine held_quiet 19 (v := ?v19q18) rfl (by kernel_rfl) (fun _ _ _ h => h) (by assumption) rfl ?hy19q18 ?rest19q18
  case hy19q18 => (intro wS hSw; (try dsimp only at hSw); go_simp; try with_reducible rfl)
  try simp only [Act.put, List.setIfInBounds_toArray, List.set_cons_zero, List.set_cons_succ]
  refine held_quiet 20 (v := ?v20q19) rfl (by kernel_rfl) (fun _ _ _ h => h) (by assumption) rfl ?hy20q19 ?rest20q19
  case hy20q19 => (intro wS hSw; (try dsimp only at hSw); go_simp; try with_reducible rfl)
  try simp only [Act.put, List.setIfInBounds_toArray, List.set_cons_zero, List.set_cons_succ]
  refine held_one 15 rfl (by kernel_rfl) ?_
  go_wp2_with (go_at_call 30; refine (HTh.out _ (Below.refl _ _).drew).mono ?_; rintro e u1 ⟨a1, k1, rfl, hp1, hb1⟩)
  have HU1 : Hid (Below wr.heap.size wr u1) := (Below.refl wr.heap.size wr).drew.trans hb1
  have HP1 : Hid (PartsR u1 a1 m f) := hp1
  clear hp1 hb1 hS
  have hS1 := HKeep.out _ HU1.out
  try refine ⟨hS1, ?_⟩
  refine held_quiet 16 (v := ?v16q20) rfl (by kernel_rfl) (fun _ _ _ h => h) (by assumption) rfl ?hy16q20 ?rest16q20
  case hy16q20 => (intro wS hSw; (try dsimp only at hSw); go_simp; try with_reducible rfl)
  try simp only [Act.put, List.setIfInBounds_toArray, List.set_cons_zero, List.set_cons_succ]
  refine held_one 21 rfl (by kernel_rfl) ?_
  go_wp2_with (go_at_call 37; refine (HSm.out _ _ _ HP1.out HU1.out).mono ?_; rintro e u2 ⟨rfl, hb2⟩)
  have HU2 : Hid (Below wr.heap.size wr u2) := below2 HU1.out hb2
  clear hb2 hS1
  have hS2 := HKeep.out _ HU2.out
  try refine ⟨hS2, ?_⟩
  refine held_quiet 22 (v := ?v22q21) rfl (by kernel_rfl) (fun _ _ _ h => h) (by assumption) rfl ?hy22q21 ?rest22q21
  case hy22q21 => (intro wS hSw; (try dsimp only at hSw); go_simp; try with_reducible rfl)
  try simp only [Act.put, List.setIfInBounds_toArray, List.set_cons_zero, List.set_cons_succ]
  refine held_done (by kernel_rfl) ?_
  clear hS2
  go_wp2
  go_roundg (n - (j + 1))
  case measure => omega
  case rel => exact ⟨j + 1, by omega, rfl, by go_num, below2 HB.out HU2.out⟩
end Go.Proofs.YtjmeiifogblmoaaGreatDoor

namespace Go.Proofs.YtjmeiifogblmoaaGreatDoor
open Go.RowKit

abbrev Rg := Option (Nat × Nat × Nat × Nat)
def pO : Rg → Option (Nat × Nat × Nat)
  | none => none
  | some (rp, _, t, c) => some (rp, t, c)
def rO : Rg → Option (Nat × Nat × Nat)
  | none => none
  | some (_, sp, t, c) => some (sp, t, c)
def pV : Rg → Value
  | none => .pointer none
  | some (rp, _, _, _) => .pointer (some ⟨rp, 0, none⟩)
def sV : Rg → Value
  | none => .pointer none
  | some (_, sp, _, _) => .pointer (some ⟨sp, 0, none⟩)
theorem pV_none : pV none = .pointer none := rfl
theorem sV_none : sV none = .pointer none := rfl
theorem pV_some (rp sp t c : Nat) : pV (some (rp, sp, t, c)) = .pointer (some ⟨rp, 0, none⟩) := rfl
theorem sV_some (rp sp t c : Nat) : sV (some (rp, sp, t, c)) = .pointer (some ⟨sp, 0, none⟩) := rfl
def rgOk (N : Nat) : Rg → Prop
  | none => True
  | some (_, _, t, c) => RgOk N t c
/-- whether a call opens anew -/
def agB (κ : Int) : Bool := κ == 3 || (κ == 4 || κ == 8)
theorem refNew_atN (n : Nat) (h1 : 1 ≤ n) (h2 : n ≤ 4096) (w : World) : Calls Tryz.prog 11 #[.int .i64 (n : Nat)] w fun e w' => ∃ rp, e = .returned (.pointer (some ⟨rp, 0, none⟩)) ∧ RefAt w' rp (Dr.fresh n) (fun k => w.heap.size ≤ k) ∧ Below w.heap.size w w' := by
  refine (refNewN n h1 h2 w).mono ?_
  rintro e w' ⟨rp, vS, vW, vP, he, hr, hb⟩
  have hst : RefSt w' rp vS vW vP (fun _ => nilS) (Dr.fresh n) := by
    refine ⟨?_, Dr.Ok.fresh h1 h2, fun i => World.ownsRow_nil _ _ _ _, fun i k hk => by simp [nilS, Value.ownBlock] at hk, fun _ _ => rfl⟩
    have e1 : (Dr.fresh n).safe.map txt = List.replicate n blankB := by show (List.replicate n _).map txt = _; rw [List.map_replicate]; rfl
    refine ⟨hr.self, Nat.zero_le _, ?_, ?_, hr.spoilt.mono (Nat.zero_le _)⟩
    · have := hr.safes.mono (Nat.zero_le _)
      rw [← e1] at this
      exact this
    · have e2 : (List.range (Dr.fresh n).safe.length).map (fun _ => nilS) = List.replicate n nilS := by
        rw [show (Dr.fresh n).safe.length = n from List.length_replicate, List.map_const', List.length_range]
      have := hr.writes.mono (Nat.zero_le _)
      rw [← e2] at this
      exact this
  have hlow : ∀ k, RFeet rp vS vW vP (fun _ => nilS) k → w.heap.size ≤ k := fun k hk => by
    rcases hk with hk | ⟨i, hi⟩
    · exact (hr.lt k hk).1
    · simp [nilS, Value.ownBlock] at hi
  exact ⟨rp, he, ⟨vS, vW, vP, _, hst, fun k hk => hlow k hk⟩, hb⟩
/-- both drives, new -/
theorem two_new {X : RingSays} {w w1 w2 : World} {B dp kp : Nat} {D E : Dr} (hB : B ≤ w.heap.size) (h1 : DriveAt w1 dp D (fun k => w.heap.size ≤ k)) (b1 : Below w.heap.size w w1) (h2 : RefAt w2 kp E (fun k => w1.heap.size ≤ k)) (b2 : Below w1.heap.size w1 w2) : Two X w2 B 2 dp kp D E none none 0 #[] := by
  have m1 := Many.add (Many.nil w hB (fun _ => Thing.none)) (T' := PT X dp D none) (G := fun k => w.heap.size ≤ k) b1 ⟨_, fun _ => False, h1, trivial, fun _ _ e => e, fun _ hk => hk, fun _ e => e.elim⟩ (fun _ hk => hk)
  have m2 := Many.add m1 (T' := RT kp E none) (G := fun k => w1.heap.size ≤ k) b2 ⟨_, fun _ => False, h2, trivial, fun _ _ e => e, fun _ hk => hk, fun _ e => e.elim⟩ (fun _ hk => hk)
  refine m2.congr fun i hi => ?_
  match i, hi with
  | 0, _ => rw [swap1_other _ _ (by decide), swap1_same]; rfl
  | 1, _ => rw [swap1_same]; rfl
/-- a ring's value -/
def ppV : Option (Nat × Nat × Nat) → Value
  | none => .pointer none
  | some (p, _, _) => .pointer (some ⟨p, 0, none⟩)
/-- what an Open finds -/
def Opened (D : Dr) (o : Option (Nat × Nat × Nat)) (m : Nat) : Prop := (Ri.openE D ≠ 0 ∧ o = none ∧ m = 0) ∨ (Ri.openE D = 0 ∧ m = Ri.openC D ∧ ∃ p, o = some (p, Ri.openT D, Ri.openC D))
theorem opened_both {D : Dr} {N m m' : Nat} {po ro : Option (Nat × Nat × Nat)} (hl : D.safe.length = N) (h : Opened D po m) (h' : Opened D ro m') : m = m' ∧ ∃ rg : Rg, po = pO rg ∧ ro = rO rg ∧ ppV po = pV rg ∧ ppV ro = sV rg ∧ rgOk N rg := by
  rcases h with ⟨h1, rfl, rfl⟩ | ⟨h1, rfl, p, rfl⟩
  · rcases h' with ⟨_, rfl, rfl⟩ | ⟨h2, _⟩
    · exact ⟨rfl, none, rfl, rfl, rfl, rfl, trivial⟩
    · exact absurd h2 h1
  · rcases h' with ⟨h2, _⟩ | ⟨_, rfl, q, rfl⟩
    · exact absurd h1 h2
    · exact ⟨rfl, some (p, q, Ri.openT D, Ri.openC D), rfl, rfl, rfl, rfl, RgOk.opened hl h1⟩
section
variable {X : RingSays} {w : World} {B m dp kp A : Nat} {D E : Dr} {po ro : Option (Nat × Nat × Nat)} {cs : Array Value}
theorem Two.open1 (h : Two X w B m dp kp D E po ro A cs) (hm : 0 < m) (hg : D.goes = false) :
    Calls Tryz.prog 16 #[.pointer (some ⟨dp, 0, none⟩)] w fun e w' => ∃ (po' : Option (Nat × Nat × Nat)) (a : Option Addr) (c cap : Nat), e = .returned (.tuple #[ppV po', .slice a c cap, .int .i64 (Ri.openE D : Nat)]) ∧ Two X w' B m dp kp D E po' ro A cs ∧ Opened D po' c ∧ RecsR w' a c (fun j => Ri.recT D (Ri.nth (Ri.openT D) (j + 1))) ∧ Below w.heap.size w w' := by
  refine (h.open hm hg).mono ?_
  rintro e w' ⟨⟨h1, ⟨a, cap, rfl⟩, ht⟩ | ⟨h1, rp, a, cap, rfl, ht, hr⟩, hb⟩
  · exact ⟨none, a, 0, cap, rfl, ht, .inl ⟨h1, rfl, rfl⟩, fun j hj => absurd hj (Nat.not_lt_zero _), hb⟩
  · exact ⟨some (rp, Ri.openT D, Ri.openC D), a, _, cap, by rw [h1]; rfl, ht, .inr ⟨h1, rfl, rp, rfl⟩, hr, hb⟩
theorem Two.ropen1 (h : Two X w B m dp kp E D po ro A cs) (hm : 1 < m) (hg : D.goes = false) :
    Calls Tryz.prog 17 #[.pointer (some ⟨kp, 0, none⟩)] w fun e w' => ∃ (ro' : Option (Nat × Nat × Nat)) (a : Option Addr) (c cap : Nat), e = .returned (.tuple #[ppV ro', .slice a c cap, .int .i64 (Ri.openE D : Nat)]) ∧ Two X w' B m dp kp E D po ro' A cs ∧ Opened D ro' c ∧ RecsR w' a c (fun j => Ri.recT D (Ri.nth (Ri.openT D) (j + 1))) ∧ Below w.heap.size w w' := by
  refine (h.ropen' hm hg).mono ?_
  rintro e w' ⟨⟨h1, rfl, ht⟩ | ⟨h1, rp, a, cap, rfl, ht, hr⟩, hb⟩
  · exact ⟨none, none, 0, 0, rfl, ht, .inl ⟨h1, rfl, rfl⟩, fun j hj => absurd hj (Nat.not_lt_zero _), hb⟩
  · exact ⟨some (rp, Ri.openT D, Ri.openC D), a, _, cap, by rw [h1]; rfl, ht, .inr ⟨h1, rfl, rp, rfl⟩, hr, hb⟩
end
/-- what is read of a record has few parts -/
theorem rec_small (D : Dr) (m : Nat) : (Ri.recT D m).n ≤ 1000 := by
  show Rc.hN (Ri.headAt D m) ≤ 1000
  by_cases hh : Rc.headE (Ri.headAt D m) = 0
  · have := (Rc.head_places hh).2.2.2.2.1
    omega
  · unfold Rc.hN; rw [if_neg hh]; decide
end Go.Proofs.YtjmeiifogblmoaaGreatDoor

namespace Go.Proofs.YtjmeiifogblmoaaGreatDoor
open Go.RowKit

set_option maxRecDepth 100000 in
set_option maxHeartbeats 1000000 in
theorem wgs13_nil (w : World) (a : Option Addr) (cap : Nat) : Calls Tryz.prog 8 #[.slice a 0 cap] w fun e w' => w' = w ∧ e = .returned (.bool false) := by
  go_enter Tryz.func8, Tryz.ntmps8
  go_wp2
  go_loopg [3] 0 (fun gg i wr => gg = 0 ∧ i = .int .i64 0 ∧ wr = w)
  case atStart => exact ⟨rfl, rfl, rfl⟩
  case round =>
    obtain ⟨rfl, rfl, rfl⟩ := hrel
    go_wp2
    go_ret
    exact ⟨rfl, rfl⟩
set_option maxRecDepth 100000 in
set_option maxHeartbeats 4000000 in
theorem wgs13_some (w : World) (b off n cap : Nat) (f : Nat → Act13) (hA : ∀ j, j < n → ActAt13 w b (off + j * 5) (f j)) (hn : n ≤ maxLen) :
    Calls Tryz.prog 8 #[.slice (some ⟨b, off, none⟩) n cap] w fun e w' => w' = w ∧ (e = .returned (.bool true) ∧ ¬ Light13L n f ∨ e = .returned (.bool false) ∧ Light13L n f) := by
  unfold maxLen at hn
  by_cases h40 : (40 : Int) < (n : Int)
  · go_enter Tryz.func8, Tryz.ntmps8
    go_wp2
    go_ret
    exact ⟨rfl, .inl ⟨rfl, fun h => by have := h.1; omega⟩⟩
  · have hn2 : n ≤ 40 := by omega
    have HA : Hid (∀ j, j < n → ActAt13 w b (off + j * 5) (f j)) := hA
    clear hA
    go_enter Tryz.func8, Tryz.ntmps8
    go_wp2
    go_loopg [3] n (fun gg i wr => ∃ k : Nat, k ≤ n ∧ gg = n - k ∧ i = .int .i64 k ∧ wr = w ∧ ∀ j, j < k → ActLight (f j))
    case atStart => exact ⟨0, Nat.zero_le _, rfl, rfl, rfl, fun j hj => absurd hj (Nat.not_lt_zero _)⟩
    case round =>
      obtain ⟨k, hk, rfl, rfl, rfl, hl⟩ := hrel
      have HL : Hid (∀ j, j < k → ActLight (f j)) := hl
      clear hl
      by_cases hlt : k < n
      case neg =>
        have hkn : k = n := by omega
        subst hkn
        go_wp2
        go_ret
        exact ⟨rfl, .inr ⟨rfl, hn2, HL.out⟩⟩
      case pos =>
        obtain ⟨_, _, c2, c3, c4, hok⟩ := HA.out k hlt
        have hhv := heavy13_any wr (f k).sa (f k).sn (f k).sc (f k).s hok.sr hok.ss hok.sm
        have hpm := hok.pm
        have hkm := hok.km
        have HOk : Hid (ActOk wr (f k)) := hok
        obtain ⟨pn, hpn⟩ : ∃ pn, pn = (f k).pn := ⟨_, rfl⟩
        obtain ⟨kn, hkn⟩ : ∃ kn, kn = (f k).kn := ⟨_, rfl⟩
        obtain ⟨sn, hsn⟩ : ∃ sn, sn = (f k).sn := ⟨_, rfl⟩
        obtain ⟨sa, hsa⟩ : ∃ sa, sa = (f k).sa := ⟨_, rfl⟩
        obtain ⟨sc, hsc⟩ : ∃ sc, sc = (f k).sc := ⟨_, rfl⟩
        obtain ⟨pa, hpa⟩ : ∃ pa, pa = (f k).pa := ⟨_, rfl⟩
        obtain ⟨pc, hpc⟩ : ∃ pc, pc = (f k).pc := ⟨_, rfl⟩
        obtain ⟨ka, hka⟩ : ∃ ka, ka = (f k).ka := ⟨_, rfl⟩
        obtain ⟨kc, hkc⟩ : ∃ kc, kc = (f k).kc := ⟨_, rfl⟩
        rw [← hsa, ← hsn, ← hsc] at c2 hhv
        rw [← hpa, ← hpn, ← hpc] at c3
        rw [← hka, ← hkn, ← hkc] at c4
        rw [← hpn] at hpm
        rw [← hkn] at hkm
        have HE : Hid (pn = (f k).pn ∧ kn = (f k).kn ∧ sn = (f k).sn ∧ pa = (f k).pa) := ⟨hpn, hkn, hsn, hpa⟩
        have hki : (k : Int) < (n : Int) := by omega
        have HK : Hid (k < n) := hlt
        unfold maxLen at hpm hkm
        clear hpn hkn hsn hsa hsc hpa hpc hka hkc hok
        go_wp2_with fail
        refine hhv.mono ?_
        rintro e w1 ⟨rfl, ⟨rfl, hno⟩ | ⟨rfl, hlt1⟩⟩
        · have HNo : Hid (¬ Light13L n f) := fun h => hno (by rw [HE.out.2.2.1]; exact (h.2 k HK.out).1)
          clear hno
          go_wp2
          go_ret
          exact ⟨rfl, .inl ⟨rfl, fun h => HNo.out h⟩⟩
        have HL1 : Hid (Ri.Light13 (f k).sn (f k).s) := by rw [← HE.out.2.2.1]; exact hlt1
        clear hlt1 hhv
        by_cases h1 : (50 : Int) < (pn : Int)
        · go_wp2
          go_ret
          exact ⟨rfl, .inl ⟨rfl, fun h => by have := (h.2 k HK.out).2.1; rw [← HE.out.1] at this; omega⟩⟩
        by_cases h2 : (50 : Int) < (kn : Int)
        · go_wp2
          go_ret
          exact ⟨rfl, .inl ⟨rfl, fun h => by have := (h.2 k HK.out).2.2.1; rw [← HE.out.2.1] at this; omega⟩⟩
        have HN : Hid (pn ≤ 50 ∧ kn ≤ 50) := ⟨by omega, by omega⟩
        go_wp2
        go_loopg [4] pn (fun gg i wq => ∃ q : Nat, q ≤ pn ∧ gg = pn - q ∧ i = .int .i64 (q : Int) ∧ wq = w1 ∧ ∀ j, j < q → ((f k).p j).data.size ≤ 100)
        case atStart => exact ⟨0, Nat.zero_le _, rfl, rfl, rfl, fun j hj => absurd hj (Nat.not_lt_zero _)⟩
        case round =>
          obtain ⟨q, hq, rfl, rfl, rfl, hl⟩ := hrel
          have HQ : Hid (∀ j, j < q → ((f k).p j).data.size ≤ 100) := hl
          clear hl
          by_cases hqt : q < pn
          case neg =>
            have hqn : q = pn := by omega
            have hqi : ¬ (q : Int) < (pn : Int) := by omega
            have HAl : Hid (ActLight (f k)) := ⟨HL1.out, by rw [← HE.out.1]; exact HN.out.1, by rw [← HE.out.2.1]; exact HN.out.2, fun j hj => HQ.out j (by rw [← HE.out.1, ← hqn] at hj; exact hj)⟩
            clear hqn hqt hq
            go_wp2
            go_roundg (n - (k + 1))
            case measure => omega
            case rel => exact ⟨k + 1, by omega, rfl, by go_num, rfl, fun j hj => by
              by_cases e : j = k
              · rw [e]; exact HAl.out
              · exact HL.out j (by omega)⟩
          case pos =>
            have hqi : (q : Int) < (pn : Int) := by omega
            have HQt : Hid (q < pn) := hqt
            obtain ⟨bp, op, hpe, hpp⟩ := HOk.out.pr q (by rw [← HE.out.1]; exact hqt)
            rw [← HE.out.2.2.2] at hpe
            subst hpe
            have p2 := hpp.c2
            have hsz := (HOk.out.pw q (by rw [← HE.out.1]; exact hqt)).2.2
            obtain ⟨s, hs⟩ : ∃ s, s = ((f k).p q).data := ⟨_, rfl⟩
            rw [← hs] at p2 hsz
            have HS : Hid (s = ((f k).p q).data) := hs
            unfold maxLen at hsz
            clear hs hpp
            by_cases h3 : (100 : Int) < (s.size : Int)
            · go_wp2
              go_ret
              exact ⟨rfl, .inl ⟨rfl, fun h => by have := (h.2 k HK.out).2.2.2 q (by rw [← HE.out.1]; exact HQt.out); rw [← HS.out] at this; omega⟩⟩
            · go_wp2
              go_roundg (pn - (q + 1))
              case measure => omega
              case rel => exact ⟨q + 1, by omega, rfl, by go_num, rfl, fun j hj => by
                by_cases e : j = q
                · rw [e, ← HS.out]; omega
                · exact HQ.out j (by omega)⟩
set_option maxRecDepth 100000 in
set_option maxHeartbeats 1000000 in
theorem acts13_over (X : RingSays) (sec : Nat) (a : Option Addr) (cap n : Nat) (w : World) (hh : Calls Tryz.prog 8 #[.slice a n cap] w fun e w' => w' = w ∧ e = .returned (.bool true)) :
    Calls Tryz.prog 3 #[.int .u16 (sec : Int), .slice a n cap] w fun e w' => e = .returned (.bool true) ∧ Below w.heap.size w w' := by
  have hsh := fun W => shown13_any X W
  go_enter Tryz.func3, Tryz.ntmps3
  go_wp2_with fail
  refine hh.mono ?_
  rintro e w1 ⟨rfl, rfl⟩
  clear hh
  go_wp2_with fail
  refine (hsh _).mono ?_
  rintro e w2 ⟨rfl, hb2⟩
  have HB2 : Hid (Below w1.heap.size w1 w2) := hb2
  clear hb2 hsh
  go_wp2
  go_ret
  exact ⟨rfl, HB2.out⟩
end Go.Proofs.YtjmeiifogblmoaaGreatDoor
