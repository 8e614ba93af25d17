/- The document's own plans: the walk of Read. -/
import Derived.Test.YtlkbdhejfmljlaaDoorRef15Rk
namespace Go.Proofs.YtlkbdhejfmljlaaDoor
open Go.RowKit
attribute [local go_sem] Oper.semAt_some

/-- a row of numbers of the call's own -/
def Row15 (w : World) (l : List Int) (v : Value) (wr : World) : Prop := wr.ownsRow w.heap.size 3 1 v l.length (iV15 l) ∧ Below w.heap.size w wr
theorem Row15.grown {w wr w1 : World} {l : List Int} {v v' : Value} {m : Nat} {x : Int} (h : Row15 w l v wr) (hm : m = l.length)
    (ho : w1.ownsRow w.heap.size 3 1 v' (m + 1) (iV15 l ++ [.int .i64 x])) (hg : (wr.alloc (.cells #[.int .i64 x] 3)).grownBy w1 v.ownBlock) : Row15 w (l ++ [x]) v' w1 := by
  unfold Row15
  rw [List.length_append, ← hm]
  exact ⟨by rw [← iV15_snoc]; exact ho, h.2.trans (below_append h.1 h.2.size hg)⟩
theorem Row15.nil {w wr : World} (hb : Below w.heap.size w wr) : Row15 w [] (.slice none 0 0) wr := ⟨World.ownsRow_nil _ _ _ _, hb⟩
theorem Row15.made {w wr : World} (hb : Below w.heap.size w wr) : Row15 w [] (.slice (some ⟨wr.heap.size, 0, none⟩) 0 0) (wr.alloc (.cells #[] 3)) := ⟨row_none15 wr _ hb.size, hb.alloc hb.size _⟩
theorem Row15.one {w wr : World} (hb : Below w.heap.size w wr) (x : Int) : Row15 w [x] (.slice (some ⟨wr.heap.size, 0, none⟩) 1 1) (wr.alloc (.cells #[.int .i64 x] 3)) :=
  ⟨⟨rfl, .inr ⟨wr.heap.size, 1, #[.int .i64 x], rfl, hb.size, World.alloc_heap_new wr _, Nat.le_refl _, (by unfold maxLen; omega), rfl, rfl⟩⟩, hb.alloc hb.size _⟩
/-- what Read answers -/
def ReadAns (w : World) (n role : Int) (L : List Int) (r : Ending) (w' : World) : Prop :=
  ∃ v, r = .returned (.tuple #[v, .int .i64 (Pl.readE n role L : Nat)]) ∧ Row15 w (Pl.readL n role L) v w'

set_option maxRecDepth 100000 in
set_option maxHeartbeats 8000000 in
theorem rRead15_any (w : World) (n role : Int) (a : Option Addr) (cap : Nat) (L : List Int) (hcap : L.length ≤ cap) (hL : L.length ≤ 1000000) (hR : RowI .i64 w a L.length (fun j => L.getD j 0)) :
    Calls Tryd.prog 14 #[.int .i64 n, .int .i64 role, .slice a L.length cap] w (ReadAns w n role L) := by
  have hro := rroles15_any w n a cap L hcap hL hR
  obtain ⟨ok, hok⟩ : ∃ ok, ok = Pl.rolesB n L := ⟨_, rfl⟩
  rw [← hok] at hro
  cases ok with
  | false =>
    have E : Pl.readE n role L = 1 ∧ Pl.readL n role L = [] := ⟨by unfold Pl.readE; rw [← hok]; rfl, by unfold Pl.readL; rw [← hok]; rfl⟩
    unfold ReadAns
    rw [E.1, E.2]
    have HRO : Hid (Calls Tryd.prog 22 #[.int .i64 n, .slice a L.length cap] w (Same15 w (.bool false))) := hro
    clear hro hok E hR
    go_enter Tryd.func14, Tryd.ntmps14
    go_wp2_with fail
    refine HRO.out.mono ?_
    rintro e w1 ⟨rfl, hb⟩
    go_wp2
    go_ret2
    exact ⟨_, rfl, Row15.nil hb⟩
  | true =>
    obtain ⟨q2, q8⟩ := Pl.rolesB_n hok.symm
    obtain ⟨N, rfl⟩ : ∃ N : Nat, n = (N : Int) := ⟨n.toNat, by omega⟩
    have HRO : Hid (Calls Tryd.prog 22 #[.int .i64 (N : Int), .slice a L.length cap] w (Same15 w (.bool true))) := hro
    have hw1 : IntKind.i64.wrap ((N : Int) + 1) = (N : Int) + 1 := by rw [IntKind.wrap_i64]; omega
    have HR : Hid (RowI .i64 w a L.length (fun j => L.getD j 0)) := hR
    clear hro hR
    by_cases h0 : role < 0
    · have E : Pl.readE (N : Int) role L = 1 ∧ Pl.readL (N : Int) role L = [] := ⟨by unfold Pl.readE; rw [decide_eq_false (show ¬ 0 ≤ role by omega)]; simp, by unfold Pl.readL; rw [decide_eq_false (show ¬ 0 ≤ role by omega)]; simp⟩
      unfold ReadAns
      rw [E.1, E.2]
      have t1 : decide (role < 0) = true := decide_eq_true h0
      clear hok E h0 HR
      go_enter Tryd.func14, Tryd.ntmps14
      go_wp2_with fail
      refine HRO.out.mono ?_
      rintro e w1 ⟨rfl, hb⟩
      go_wp2
      go_ret2
      exact ⟨_, rfl, Row15.nil hb⟩
    have t1 : decide (role < 0) = false := decide_eq_false h0
    by_cases h9 : (N : Int) + 1 < role
    · have E : Pl.readE (N : Int) role L = 1 ∧ Pl.readL (N : Int) role L = [] := ⟨by unfold Pl.readE; rw [decide_eq_false (show ¬ role ≤ (N : Int) + 1 by omega)]; simp, by unfold Pl.readL; rw [decide_eq_false (show ¬ role ≤ (N : Int) + 1 by omega)]; simp⟩
      unfold ReadAns
      rw [E.1, E.2]
      have t2 : decide ((N : Int) + 1 < role) = true := decide_eq_true h9
      clear hok E h0 h9 HR
      go_enter Tryd.func14, Tryd.ntmps14
      go_wp2_with fail
      refine HRO.out.mono ?_
      rintro e w1 ⟨rfl, hb⟩
      go_wp2
      go_ret2
      exact ⟨_, rfl, Row15.nil hb⟩
    have t2 : decide ((N : Int) + 1 < role) = false := decide_eq_false h9
    have EO : (Pl.rolesB (N : Int) L && (decide (0 ≤ role) && decide (role ≤ (N : Int) + 1))) = true := by rw [← hok, decide_eq_true (show 0 ≤ role by omega), decide_eq_true (show role ≤ (N : Int) + 1 by omega)]; rfl
    have HH : Hid (∀ W x, Below w.heap.size w W → Calls Tryd.prog 23 #[.slice a L.length cap, .int .i64 x] W fun r w' => r = .returned (.bool (Pl.hasB L x)) ∧ w' = W) := fun W x hW => rhas15_any W a cap L hL (HR.out.below hW) x
    obtain ⟨g0, hg0⟩ : ∃ g0, Pl.hasB L role = g0 := ⟨_, rfl⟩
    have HG0 : Hid (∀ W, Below w.heap.size w W → Calls Tryd.prog 23 #[.slice a L.length cap, .int .i64 role] W fun r w' => r = .returned (.bool g0) ∧ w' = W) := fun W hW => by
      have h := HH.out W role hW
      rwa [hg0] at h
    clear h0 h9 HR hok
    cases g0 with
    | false =>
      have E : Pl.readE (N : Int) role L = 0 ∧ Pl.readL (N : Int) role L = [role] := ⟨by unfold Pl.readE; rw [if_pos EO, hg0]; rfl, by unfold Pl.readL; rw [if_pos EO, hg0]; rfl⟩
      unfold ReadAns
      rw [E.1, E.2]
      clear E EO hg0
      go_enter Tryd.func14, Tryd.ntmps14
      go_wp2_with fail
      refine HRO.out.mono ?_
      rintro e w1 ⟨rfl, hb⟩
      have HB1 : Hid (Below w.heap.size w w1) := hb
      go_wp2_with (go_at_call 23; refine (HG0.out _ HB1.out).mono ?_; rintro e w2 ⟨rfl, rfl⟩)
      go_ret2
      exact ⟨_, rfl, Row15.one HB1.out role⟩
    | true =>
      by_cases hl2 : L.length ≤ 2
      · have E : Pl.readE (N : Int) role L = 0 ∧ Pl.readL (N : Int) role L = Pl.leftT L (N + 2) := ⟨by unfold Pl.readE; rw [if_pos EO, hg0, if_pos rfl, if_pos hl2], by unfold Pl.readL; rw [if_pos EO, hg0, if_pos rfl, if_pos hl2]; rfl⟩
        unfold ReadAns
        rw [E.1, E.2]
        obtain ⟨i0, q1, q2', q3, q4⟩ := info_parts (show (Tryd.prog.info? 3).map (fun i => (i.zero, i.size, i.bytes)) = some (some (.int .i64 0), 1, 8) by kernel_rfl)
        have HI0 : Hid (Tryd.prog.info? 3 = some i0 ∧ i0.zero = some (.int .i64 0) ∧ i0.size = 1 ∧ i0.bytes = 8) := ⟨q1, q2', q3, q4⟩
        obtain ⟨m, hm⟩ : ∃ m, m = L.length := ⟨_, rfl⟩
        rw [← hm] at HH HG0 HRO hl2 ⊢
        have t3 : decide ((2 : Int) < (m : Int)) = false := decide_eq_false (by omega)
        have t4 : decide (2 < m) = false := decide_eq_false (by omega)
        clear E EO hg0 hl2 hm hL hcap q1 q2' q3 q4
        go_enter Tryd.func14, Tryd.ntmps14
        go_wp2_with fail
        refine HRO.out.mono ?_
        rintro e w1 ⟨rfl, hb⟩
        have HB1 : Hid (Below w.heap.size w w1) := hb
        have A0 : Hid (Row15 w (Pl.leftT L 0) (.slice (some ⟨w1.heap.size, 0, none⟩) 0 0) (w1.alloc (.cells #[] 3))) := Row15.made hb
        clear hb
        go_wp2_with (go_at_call 23; refine (HG0.out _ HB1.out).mono ?_; rintro e w2 ⟨rfl, rfl⟩)
        go_loopg [8, 9] (N + 2) (fun g s8 s9 wr => ∃ t : Nat, t ≤ N + 2 ∧ g = N + 2 - t ∧ s9 = .int .i64 (t : Int) ∧ Row15 w (Pl.leftT L t) s8 wr)
        case atStart => exact ⟨0, Nat.zero_le _, rfl, rfl, A0.out⟩
        case round =>
          obtain ⟨t, ht, rfl, rfl, hA⟩ := hrel
          clear A0 HB1 HG0 HRO
          obtain ⟨v, hv⟩ : ∃ v, v = u8 := ⟨u8, rfl⟩
          subst hv
          have HA : Hid (Row15 w (Pl.leftT L t) v wr) := hA
          have hsz := hA.2.size
          obtain ⟨g, hg⟩ : ∃ g, Pl.hasB L (t : Int) = g := ⟨_, rfl⟩
          have HG : Hid (Pl.gone L t = g) := hg
          by_cases hlt : t < N + 2
          · have hi2 : (t : Int) < (N : Int) + 2 := by omega
            have hcall := HH.out wr (t : Int) hA.2
            rw [hg] at hcall
            have HCALL : Hid (Calls Tryd.prog 23 #[.slice a m cap, .int .i64 (t : Int)] wr fun r w' => r = .returned (.bool g) ∧ w' = wr) := hcall
            clear hcall hg hA
            cases g with
            | false =>
              obtain ⟨ln, hln⟩ : ∃ ln, ln = (Pl.leftT L t).length := ⟨_, rfl⟩
              have hle := Pl.leftT_len (L := L) t
              rw [← hln] at hle
              have ow := HA.out.1
              rw [← hln] at ow
              have OW : Hid (wr.ownsRow w.heap.size 3 1 v ln (iV15 (Pl.leftT L t))) := ow
              have HLN : Hid (ln = (Pl.leftT L t).length) := hln
              obtain ⟨q1, q2', q3, q4⟩ := HI0.out
              clear ow hln
              go_wp2_with (first | (go_at_call 23; refine HCALL.out.mono ?_; rintro e w2 ⟨rfl, rfl⟩) | (at_builtin; refine wpList_append_own _ rfl _ _ 23 rfl w.heap.size 3 i0 (.int .i64 0) 1 8 Tryd.underlying23 q1 q2' q3 q4 rfl (by decide) v ln (iV15 (Pl.leftT L t)) rfl (OW.out.alloc _) ⟨w2.heap.size, 0, none⟩ 1 1 [.int .i64 (t : Int)] rfl rfl (cell_one_new _ _ _) (by simp [Value.oneCell']) (by unfold maxLen; omega) (by omega) (by simp; omega) ?_; go_loud (intro v' w1 hown' hgrow _; obtain ⟨g', cap', rfl⟩ := ownsRow_succ hown')))
              go_roundg (N + 2 - (t + 1))
              case measure => omega
              case rel => exact ⟨t + 1, by omega, rfl, by go_num, by rw [Pl.leftT_yes HG.out]; exact HA.out.grown HLN.out hown' hgrow⟩
            | true =>
              go_wp2_with (go_at_call 23; refine HCALL.out.mono ?_; rintro e w2 ⟨rfl, rfl⟩)
              go_roundg (N + 2 - (t + 1))
              case measure => omega
              case rel => exact ⟨t + 1, by omega, rfl, by go_num, by rw [Pl.leftT_no HG.out]; exact HA.out⟩
          · have hi2 : ¬ (t : Int) < (N : Int) + 2 := by omega
            have htN : t = N + 2 := by omega
            have HE : Hid (Row15 w (Pl.leftT L (N + 2)) v wr) := by rw [htN] at HA; exact HA
            clear hA htN hg
            go_wp2
            go_ret2
            exact ⟨_, rfl, HE.out⟩
      · have E : Pl.readE (N : Int) role L = 60 ∧ Pl.readL (N : Int) role L = [] := ⟨by unfold Pl.readE; rw [if_pos EO, hg0, if_pos rfl, if_neg hl2], by unfold Pl.readL; rw [if_pos EO, hg0, if_pos rfl, if_neg hl2]⟩
        unfold ReadAns
        rw [E.1, E.2]
        obtain ⟨m, hm⟩ : ∃ m, m = L.length := ⟨_, rfl⟩
        rw [← hm] at HG0 HRO hl2 hL ⊢
        have t3 : decide ((2 : Int) < (m : Int)) = true := decide_eq_true (by omega)
        have t4 : decide (2 < m) = true := decide_eq_true (by omega)
        clear E EO hg0 hm hl2 HH hcap
        go_enter Tryd.func14, Tryd.ntmps14
        go_wp2_with fail
        refine HRO.out.mono ?_
        rintro e w1 ⟨rfl, hb⟩
        have HB1 : Hid (Below w.heap.size w w1) := hb
        go_wp2_with (go_at_call 23; refine (HG0.out _ HB1.out).mono ?_; rintro e w2 ⟨rfl, rfl⟩)
        go_ret2
        exact ⟨_, rfl, Row15.nil HB1.out⟩
end Go.Proofs.YtlkbdhejfmljlaaDoor
