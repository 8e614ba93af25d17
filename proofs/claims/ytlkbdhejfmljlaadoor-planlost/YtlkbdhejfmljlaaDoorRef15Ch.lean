/- The document's own plans: the walk of Choose where it may be asked. -/
import Derived.Test.YtlkbdhejfmljlaaDoorRef15Bx
namespace Go.Proofs.YtlkbdhejfmljlaaDoor
open Go.RowKit
attribute [local go_sem] Oper.semAt_some

namespace Pl
variable {N : Nat} {B : Nat → Bool} {L : List Int}
theorem bestT_yes {t : Nat} (hc : canB N B L ((t : Int) + 1) = true) (h : (bestT N B L t).1 = 0 ∨ (ansL N B L ((t : Int) + 1)).length < (bestT N B L t).2.length) : bestT N B L (t + 1) = ((t : Int) + 1, ansL N B L ((t : Int) + 1)) := by
  show (if _ then _ else _) = _
  rw [if_pos (by rw [hc]; simpa using h)]
theorem bestT_no {t : Nat} (h : canB N B L ((t : Int) + 1) = false ∨ ((bestT N B L t).1 ≠ 0 ∧ ¬ (ansL N B L ((t : Int) + 1)).length < (bestT N B L t).2.length)) : bestT N B L (t + 1) = bestT N B L t := by
  show (if _ then _ else _) = _
  rw [if_neg]
  rcases h with h | ⟨h1, h2⟩
  · rw [h]; simp
  · rw [decide_eq_false h1, decide_eq_false h2]; simp
end Pl
/-- both plans of Choose: the result's cell and its own, the rows behind them -/
structure C15 (w : World) (b6 b9 : Nat) (bw : Int) (rl wl : List Int) (vr vw : Value) (wr : World) : Prop where
  x6 : Box15 wr b6 (.int .i64 0) (.slice none 0 0) (.slice none 0 0)
  x9 : Box15 wr b9 (.int .i64 bw) vr vw
  rr : wr.ownsRow (b9 + 1) 3 1 vr rl.length (iV15 rl)
  rw_ : wr.ownsRow (b9 + 1) 3 1 vw wl.length (iV15 wl)
  hb : Below w.heap.size w wr
  h6 : w.heap.size ≤ b6
  h69 : b6 < b9
namespace C15
variable {w wr w1 : World} {b6 b9 : Nat} {bw : Int} {rl wl : List Int} {vr vw : Value}
theorem start {w2 : World} (x6 : Box15 w2 b6 (.int .i64 0) (.slice none 0 0) (.slice none 0 0)) (hb : Below w.heap.size w w2) (h6 : w.heap.size ≤ b6) :
    C15 w b6 w2.heap.size 0 [] [] (.slice none 0 0) (.slice none 0 0) (w2.alloc (.cells #[.int .i64 0, .slice none 0 0, .slice none 0 0] 30)) := by
  have lt := x6.lt
  have hb2 : Below w2.heap.size w2 (w2.alloc (.cells #[.int .i64 0, .slice none 0 0, .slice none 0 0] 30)) := (Below.refl _ w2).alloc (Nat.le_refl _) _
  exact ⟨x6.below hb2 lt, Box15.new _ _ _ _ _, World.ownsRow_nil _ _ _ _, World.ownsRow_nil _ _ _ _, below2 hb hb2, h6, lt⟩
theorem grown {v' : Value} {m : Nat} {x : Int} (h : C15 w b6 b9 bw [] wl (.slice none 0 0) vw wr) (hm : m = wl.length)
    (ho : w1.ownsRow (b9 + 1) 3 1 v' (m + 1) (iV15 wl ++ [.int .i64 x])) (hg : (wr.alloc (.cells #[.int .i64 x] 3)).grownBy w1 vw.ownBlock) :
    C15 w b6 b9 bw [] (wl ++ [x]) (.slice none 0 0) v' (w1.setCell ⟨b9, 2, none⟩ v') := by
  have l9 := h.x9.lt
  have l69 := h.h69
  have h6 := h.h6
  have hba := below_append h.rw_ l9 hg
  have hz := hba.size
  have x6 := h.x6.below hba (by omega)
  have x9 := h.x9.below hba (by omega)
  refine ⟨x6.far (by simp; omega) _, x9.put2 _, World.ownsRow_nil _ _ _ _, own_set15 ?_ (by simp) _, stored15 (h.hb.trans (hba.mono (by omega))) (by omega) (by simp; omega) _, h6, l69⟩
  rw [List.length_append, ← hm, ← iV15_snoc]
  exact ho
theorem mid {x : Int} (h : C15 w b6 b9 bw [] wl (.slice none 0 0) vw wr) (hg : (wr.alloc (.cells #[.int .i64 x] 3)).grownBy w1 vw.ownBlock) :
    w1.cell? ⟨b9, 2, none⟩ = some vw ∧ w1.frozen? ⟨b9, 2, none⟩ = false := by
  have x9 := h.x9.below (below_append h.rw_ h.x9.lt hg) (by omega)
  exact ⟨x9.k2, x9.f2⟩
theorem below (h : C15 w b6 b9 bw rl wl vr vw wr) (hb : Below wr.heap.size wr w1) : C15 w b6 b9 bw rl wl vr vw w1 :=
  ⟨h.x6.below hb h.x6.lt, h.x9.below hb h.x9.lt, ownsRow_below h.rr hb, ownsRow_below h.rw_ hb, h.hb.trans (hb.mono h.hb.size), h.h6, h.h69⟩
theorem took {way : Int} {l : List Int} {v : Value} (h : C15 w b6 b9 bw rl wl vr vw wr) (hb : Below wr.heap.size wr w1) (ho : w1.ownsRow wr.heap.size 3 1 v l.length (iV15 l)) :
    C15 w b6 b9 way l wl v vw ((w1.setCell ⟨b9, 0, none⟩ (.int .i64 way)).setCell ⟨b9, 1, none⟩ v) := by
  have l9 := h.x9.lt
  have l69 := h.h69
  have h6 := h.h6
  have h1 := h.below hb
  have hz := h1.hb.size
  have q1 : Below w.heap.size w (w1.setCell ⟨b9, 0, none⟩ (.int .i64 way)) := stored15 h1.hb hz (by simp; omega) _
  exact ⟨(h1.x6.far (by simp; omega) _).far (by simp; omega) _, (h1.x9.put0 _).put1 _, own_set15 (own_set15 (row_low15 ho (by omega)) (by simp) _) (by simp) _, own_set15 (own_set15 h1.rw_ (by simp) _) (by simp) _, stored15 q1 q1.size (by simp; omega) _, h6, l69⟩
theorem ends {n : Int} {m0 : Nat} {B : Nat → Bool} {L : List Int} (h : C15 w b6 b9 (Pl.chooseW n m0 B L) (Pl.chooseR n m0 B L) (Pl.chooseP n m0 B L) vr vw wr) (he : Pl.chooseE n m0 L = 0) (x : Value) :
    ChooseAns w n m0 B L (.returned (.tuple #[.agg #[.int .i64 (Pl.chooseW n m0 B L), vr, vw], .int .i64 0])) (((wr.setCell ⟨b6, 0, none⟩ x).setCell ⟨b6, 1, none⟩ vr).setCell ⟨b6, 2, none⟩ vw) := by
  have l9 := h.x9.lt
  have l69 := h.h69
  have h6 := h.h6
  have hb := stored15_all h.hb h.hb.size h6 x vr vw
  have key : ∀ {l : List Int} {v : Value}, wr.ownsRow (b9 + 1) 3 1 v l.length (iV15 l) → (((wr.setCell ⟨b6, 0, none⟩ x).setCell ⟨b6, 1, none⟩ vr).setCell ⟨b6, 2, none⟩ vw).ownsRow w.heap.size 3 1 v l.length (iV15 l) := fun ho =>
    row_low15 (own_set15 (own_set15 (own_set15 ho (by simp; omega) _) (by simp; omega) _) (by simp; omega) _) (by omega)
  exact ⟨vr, vw, by rw [he]; rfl, ⟨key h.rr, hb⟩, ⟨key h.rw_, hb⟩⟩
end C15

set_option maxRecDepth 100000 in
set_option maxHeartbeats 32000000 in
theorem rChoose15_yes (w : World) (N : Nat) (a0 : Option Addr) (k0 : Nat) (B : Nat → Bool) (hB : RowB w a0 N B) (a : Option Addr) (cap : Nat) (L : List Int) (hcap : L.length ≤ cap) (hL : L.length ≤ 1000000) (hR : RowI .i64 w a L.length (fun j => L.getD j 0))
    (hyes : Pl.costOk (N : Int) N L = true) : Calls Tryd.prog 10 #[.int .i64 (N : Int), .slice a0 N k0, .slice a L.length cap] w (ChooseAns w (N : Int) N B L) := by
  obtain ⟨hok, hl2⟩ : Pl.rolesB (N : Int) L = true ∧ L.length ≤ 2 := by
    unfold Pl.costOk Pl.argsOk at hyes
    simp only [Bool.and_eq_true, decide_eq_true_eq] at hyes
    exact ⟨hyes.1.1, hyes.2⟩
  obtain ⟨q2, q8⟩ := Pl.rolesB_n hok
  have he0 : Pl.chooseE (N : Int) N L = 0 := by unfold Pl.chooseE Pl.argsOk; rw [hok, if_pos (by simp), if_pos hl2]
  have HE0 : Hid (Pl.chooseE (N : Int) N L = 0) := he0
  have HGO : Hid (∀ s, s = Pl.anyT N B (N + 2) → Pl.goes (N : Int) N B L = s) := fun s hs => by unfold Pl.goes; rw [hyes, hs]; rfl
  have HCW : Hid (Pl.goes (N : Int) N B L = true → Pl.chooseW (N : Int) N B L = (Pl.bestT N B L 4).1 ∧ Pl.chooseR (N : Int) N B L = (Pl.bestT N B L 4).2 ∧ Pl.chooseP (N : Int) N B L = Pl.writesT N B L (N + 2)) := fun h => ⟨by unfold Pl.chooseW; rw [if_pos h]; rfl, by unfold Pl.chooseR; rw [if_pos h]; rfl, by unfold Pl.chooseP; rw [if_pos h]; rfl⟩
  have x6 := Box15.new w 30 (.int .i64 0) (.slice none 0 0) (.slice none 0 0)
  have b6 : Below w.heap.size w (w.alloc (.cells #[.int .i64 0, .slice none 0 0, .slice none 0 0] 30)) := (Below.refl _ w).alloc (Nat.le_refl _) _
  have hro := rroles15_any _ (N : Int) a cap L hcap hL (hR.below b6)
  rw [hok] at hro
  have X6 : Hid (Box15 (w.alloc (.cells #[.int .i64 0, .slice none 0 0, .slice none 0 0] 30)) w.heap.size (.int .i64 0) (.slice none 0 0) (.slice none 0 0)) := x6
  have B6 : Hid (Below w.heap.size w (w.alloc (.cells #[.int .i64 0, .slice none 0 0, .slice none 0 0] 30))) := b6
  have HH : Hid (∀ W x, Below w.heap.size w W → Calls Tryd.prog 23 #[.slice a L.length cap, .int .i64 x] W fun r w' => r = .returned (.bool (Pl.hasB L x)) ∧ w' = W) := fun W x hW => rhas15_any W a cap L hL (hR.below hW) x
  have HBR : Hid (∀ W, Below w.heap.size w W → RowB W a0 N B) := fun W hW => hB.below hW
  have HRD : Hid (∀ W (way : Int), Below w.heap.size w W → Calls Tryd.prog 24 #[.int .i64 (N : Int), .slice a0 N k0, .slice a L.length cap, .int .i64 way] W (ReadsAns W N B L way)) := fun W way hW => rreads15_any W N (by omega) (by omega) a0 k0 B (hB.below hW) a cap L hL (hR.below hW) way
  have HRO : Hid (Calls Tryd.prog 22 #[.int .i64 (N : Int), .slice a L.length cap] (w.alloc (.cells #[.int .i64 0, .slice none 0 0, .slice none 0 0] 30)) (Same15 (w.alloc (.cells #[.int .i64 0, .slice none 0 0, .slice none 0 0] 30)) (.bool true))) := hro
  obtain ⟨i0, q1, q2'', q3, q4⟩ := info_parts (show (Tryd.prog.info? 3).map (fun i => (i.zero, i.size, i.bytes)) = some (some (.int .i64 0), 1, 8) by kernel_rfl)
  have HI0 : Hid (Tryd.prog.info? 3 = some i0 ∧ i0.zero = some (.int .i64 0) ∧ i0.size = 1 ∧ i0.bytes = 8) := ⟨q1, q2'', q3, q4⟩
  obtain ⟨m, hm⟩ : ∃ m, m = L.length := ⟨_, rfl⟩
  rw [← hm] at HH HRD HRO hl2 ⊢
  have t1 : decide ((2 : Int) < (m : Int)) = false := decide_eq_false (by omega)
  have t2 : decide (2 < m) = false := decide_eq_false (by omega)
  clear hyes hok he0 x6 b6 hro hB hR hL hcap hm hl2 q1 q2'' q3 q4
  go_enter Tryd.func10, Tryd.ntmps10
  go_wp2_with fail
  refine HRO.out.mono ?_
  rintro e w2 ⟨rfl, hb⟩
  have x62 := X6.out.below hb X6.out.lt
  have A0 : Hid (C15 w w.heap.size w2.heap.size 0 [] (Pl.writesT N B L 0) (.slice none 0 0) (.slice none 0 0) (w2.alloc (.cells #[.int .i64 0, .slice none 0 0, .slice none 0 0] 30))) := C15.start x62 (below2 B6.out hb) (Nat.le_refl _)
  clear hb x62 X6 B6 HRO
  go_wp2_with fail
  go_loopg [8, 10] (N + 2) (fun g s8 s10 wr => ∃ t : Nat, t ≤ N + 2 ∧ g = N + 2 - t ∧ s10 = .int .i64 (t : Int) ∧ s8 = .bool (Pl.anyT N B t) ∧ ∃ v, C15 w w.heap.size w2.heap.size 0 [] (Pl.writesT N B L t) (.slice none 0 0) v wr)
  case atStart => exact ⟨0, Nat.zero_le _, rfl, rfl, rfl, _, A0.out⟩
  case round =>
    obtain ⟨t, ht, rfl, rfl, rfl, v, hA⟩ := hrel
    clear A0
    have HA : Hid (C15 w w.heap.size w2.heap.size 0 [] (Pl.writesT N B L t) (.slice none 0 0) v wr) := hA
    have hsz := hA.x9.lt
    have IS := Pl.anyT_succ (N := N) (B := B) t
    obtain ⟨s, hs⟩ : ∃ s, s = Pl.anyT N B t := ⟨_, rfl⟩
    have HIS : Hid (s = Pl.anyT N B t) := hs
    rw [← hs] at IS ⊢
    obtain ⟨g, hg⟩ : ∃ g, Pl.hasB L (t : Int) = g := ⟨_, rfl⟩
    have HG : Hid (Pl.gone L t = g) := hg
    clear hs
    by_cases hlt : t < N + 2
    · have hi2 : (t : Int) < (N : Int) + 2 := by omega
      have hcall := HH.out wr (t : Int) hA.hb
      rw [hg] at hcall
      have HCALL : Hid (Calls Tryd.prog 23 #[.slice a m cap, .int .i64 (t : Int)] wr fun r w' => r = .returned (.bool g) ∧ w' = wr) := hcall
      clear hcall hg
      by_cases htn : t < N
      · obtain ⟨bb, bo, rfl, hcb⟩ := HBR.out wr hA.hb t htn
        obtain ⟨bi, hbi⟩ : ∃ bi, bi = B t := ⟨_, rfl⟩
        rw [← hbi] at hcb IS
        rw [decide_eq_true htn] at IS
        have HBI : Hid (B t = bi) := hbi.symm
        have hd : (t : Int) < (N : Int) := by omega
        have HNW : Hid (Pl.inW N B L t = (!g && (false || bi))) := by show _ = _; unfold Pl.inW; rw [HG.out, decide_eq_false (show ¬ N ≤ t by omega), HBI.out]
        clear hbi
        have IS' : Hid (Pl.anyT N B (t + 1) = (s || (true && bi))) := IS
        clear IS
        cases s with
        | false =>
          cases bi with
          | false =>
            replace IS' : Hid (Pl.anyT N B (t + 1) = false) := IS'
            cases g with
            | false =>
              have HIN : Hid (Pl.inW N B L t = false) := HNW.out
              clear hA
              go_wp2_with (go_at_call 23; refine HCALL.out.mono ?_; rintro e w3 ⟨rfl, rfl⟩)
              go_roundg (N + 2 - (t + 1))
              case measure => omega
              case rel => exact ⟨t + 1, by omega, rfl, by go_num, by rw [IS'.out], _, by rw [Pl.writesT_no HIN.out]; exact HA.out⟩
            | true =>
              have HIN : Hid (Pl.inW N B L t = false) := HNW.out
              clear hA
              go_wp2_with (go_at_call 23; refine HCALL.out.mono ?_; rintro e w3 ⟨rfl, rfl⟩)
              go_roundg (N + 2 - (t + 1))
              case measure => omega
              case rel => exact ⟨t + 1, by omega, rfl, by go_num, by rw [IS'.out], _, by rw [Pl.writesT_no HIN.out]; exact HA.out⟩
          | true =>
            replace IS' : Hid (Pl.anyT N B (t + 1) = true) := IS'
            cases g with
            | false =>
              have HIN : Hid (Pl.inW N B L t = true) := HNW.out
              obtain ⟨ln, hln⟩ : ∃ ln, ln = (Pl.writesT N B L t).length := ⟨_, rfl⟩
              have hle := Pl.writesT_len (N := N) (B := B) (L := L) t
              rw [← hln] at hle
              have ow := HA.out.rw_
              rw [← hln] at ow
              have OW : Hid (wr.ownsRow (w2.heap.size + 1) 3 1 v ln (iV15 (Pl.writesT N B L t))) := ow
              have HLN : Hid (ln = (Pl.writesT N B L t).length) := hln
              obtain ⟨q1, q2'', q3, q4⟩ := HI0.out
              have k2 := hA.x9.k2
              have f2 := hA.x9.f2
              clear ow hln hA
              go_wp2_with (first | (go_at_call 23; refine HCALL.out.mono ?_; rintro e w3 ⟨rfl, rfl⟩) | (at_builtin; refine wpList_append_own _ rfl _ _ 23 rfl (w2.heap.size + 1) 3 i0 (.int .i64 0) 1 8 Tryd.underlying23 q1 q2'' q3 q4 rfl (by decide) v ln (iV15 (Pl.writesT N B L t)) rfl (OW.out.alloc _) ⟨_, 0, none⟩ 1 1 [.int .i64 (t : Int)] rfl rfl (cell_one_new _ _ _) (by simp [Value.oneCell']) (by unfold maxLen; omega) (by omega) (by simp; omega) ?_; go_loud (intro v' w1 hown' hgrow _; obtain ⟨k2', f2'⟩ := HA.out.mid hgrow; obtain ⟨g', cap', rfl⟩ := ownsRow_succ hown')))
              go_roundg (N + 2 - (t + 1))
              case measure => omega
              case rel => exact ⟨t + 1, by omega, rfl, by go_num, by rw [IS'.out], _, by rw [Pl.writesT_yes HIN.out]; exact HA.out.grown HLN.out hown' hgrow⟩
            | true =>
              have HIN : Hid (Pl.inW N B L t = false) := HNW.out
              clear hA
              go_wp2_with (go_at_call 23; refine HCALL.out.mono ?_; rintro e w3 ⟨rfl, rfl⟩)
              go_roundg (N + 2 - (t + 1))
              case measure => omega
              case rel => exact ⟨t + 1, by omega, rfl, by go_num, by rw [IS'.out], _, by rw [Pl.writesT_no HIN.out]; exact HA.out⟩
        | true =>
          cases bi with
          | false =>
            replace IS' : Hid (Pl.anyT N B (t + 1) = true) := IS'
            cases g with
            | false =>
              have HIN : Hid (Pl.inW N B L t = false) := HNW.out
              clear hA
              go_wp2_with (go_at_call 23; refine HCALL.out.mono ?_; rintro e w3 ⟨rfl, rfl⟩)
              go_roundg (N + 2 - (t + 1))
              case measure => omega
              case rel => exact ⟨t + 1, by omega, rfl, by go_num, by rw [IS'.out], _, by rw [Pl.writesT_no HIN.out]; exact HA.out⟩
            | true =>
              have HIN : Hid (Pl.inW N B L t = false) := HNW.out
              clear hA
              go_wp2_with (go_at_call 23; refine HCALL.out.mono ?_; rintro e w3 ⟨rfl, rfl⟩)
              go_roundg (N + 2 - (t + 1))
              case measure => omega
              case rel => exact ⟨t + 1, by omega, rfl, by go_num, by rw [IS'.out], _, by rw [Pl.writesT_no HIN.out]; exact HA.out⟩
          | true =>
            replace IS' : Hid (Pl.anyT N B (t + 1) = true) := IS'
            cases g with
            | false =>
              have HIN : Hid (Pl.inW N B L t = true) := HNW.out
              obtain ⟨ln, hln⟩ : ∃ ln, ln = (Pl.writesT N B L t).length := ⟨_, rfl⟩
              have hle := Pl.writesT_len (N := N) (B := B) (L := L) t
              rw [← hln] at hle
              have ow := HA.out.rw_
              rw [← hln] at ow
              have OW : Hid (wr.ownsRow (w2.heap.size + 1) 3 1 v ln (iV15 (Pl.writesT N B L t))) := ow
              have HLN : Hid (ln = (Pl.writesT N B L t).length) := hln
              obtain ⟨q1, q2'', q3, q4⟩ := HI0.out
              have k2 := hA.x9.k2
              have f2 := hA.x9.f2
              clear ow hln hA
              go_wp2_with (first | (go_at_call 23; refine HCALL.out.mono ?_; rintro e w3 ⟨rfl, rfl⟩) | (at_builtin; refine wpList_append_own _ rfl _ _ 23 rfl (w2.heap.size + 1) 3 i0 (.int .i64 0) 1 8 Tryd.underlying23 q1 q2'' q3 q4 rfl (by decide) v ln (iV15 (Pl.writesT N B L t)) rfl (OW.out.alloc _) ⟨_, 0, none⟩ 1 1 [.int .i64 (t : Int)] rfl rfl (cell_one_new _ _ _) (by simp [Value.oneCell']) (by unfold maxLen; omega) (by omega) (by simp; omega) ?_; go_loud (intro v' w1 hown' hgrow _; obtain ⟨k2', f2'⟩ := HA.out.mid hgrow; obtain ⟨g', cap', rfl⟩ := ownsRow_succ hown')))
              go_roundg (N + 2 - (t + 1))
              case measure => omega
              case rel => exact ⟨t + 1, by omega, rfl, by go_num, by rw [IS'.out], _, by rw [Pl.writesT_yes HIN.out]; exact HA.out.grown HLN.out hown' hgrow⟩
            | true =>
              have HIN : Hid (Pl.inW N B L t = false) := HNW.out
              clear hA
              go_wp2_with (go_at_call 23; refine HCALL.out.mono ?_; rintro e w3 ⟨rfl, rfl⟩)
              go_roundg (N + 2 - (t + 1))
              case measure => omega
              case rel => exact ⟨t + 1, by omega, rfl, by go_num, by rw [IS'.out], _, by rw [Pl.writesT_no HIN.out]; exact HA.out⟩
      · have hd : ¬ (t : Int) < (N : Int) := by omega
        rw [decide_eq_false htn] at IS
        have HNW : Hid (Pl.inW N B L t = (!g && (true || B t))) := by show _ = _; unfold Pl.inW; rw [HG.out, decide_eq_true (show N ≤ t by omega)]
        have IS' : Hid (Pl.anyT N B (t + 1) = (s || (false && B t))) := IS
        clear IS
        cases s with
        | false =>
          replace IS' : Hid (Pl.anyT N B (t + 1) = false) := IS'
          cases g with
          | false =>
            have HIN : Hid (Pl.inW N B L t = true) := HNW.out
            obtain ⟨ln, hln⟩ : ∃ ln, ln = (Pl.writesT N B L t).length := ⟨_, rfl⟩
            have hle := Pl.writesT_len (N := N) (B := B) (L := L) t
            rw [← hln] at hle
            have ow := HA.out.rw_
            rw [← hln] at ow
            have OW : Hid (wr.ownsRow (w2.heap.size + 1) 3 1 v ln (iV15 (Pl.writesT N B L t))) := ow
            have HLN : Hid (ln = (Pl.writesT N B L t).length) := hln
            obtain ⟨q1, q2'', q3, q4⟩ := HI0.out
            have k2 := hA.x9.k2
            have f2 := hA.x9.f2
            clear ow hln hA
            go_wp2_with (first | (go_at_call 23; refine HCALL.out.mono ?_; rintro e w3 ⟨rfl, rfl⟩) | (at_builtin; refine wpList_append_own _ rfl _ _ 23 rfl (w2.heap.size + 1) 3 i0 (.int .i64 0) 1 8 Tryd.underlying23 q1 q2'' q3 q4 rfl (by decide) v ln (iV15 (Pl.writesT N B L t)) rfl (OW.out.alloc _) ⟨_, 0, none⟩ 1 1 [.int .i64 (t : Int)] rfl rfl (cell_one_new _ _ _) (by simp [Value.oneCell']) (by unfold maxLen; omega) (by omega) (by simp; omega) ?_; go_loud (intro v' w1 hown' hgrow _; obtain ⟨k2', f2'⟩ := HA.out.mid hgrow; obtain ⟨g', cap', rfl⟩ := ownsRow_succ hown')))
            go_roundg (N + 2 - (t + 1))
            case measure => omega
            case rel => exact ⟨t + 1, by omega, rfl, by go_num, by rw [IS'.out], _, by rw [Pl.writesT_yes HIN.out]; exact HA.out.grown HLN.out hown' hgrow⟩
          | true =>
            have HIN : Hid (Pl.inW N B L t = false) := HNW.out
            clear hA
            go_wp2_with (go_at_call 23; refine HCALL.out.mono ?_; rintro e w3 ⟨rfl, rfl⟩)
            go_roundg (N + 2 - (t + 1))
            case measure => omega
            case rel => exact ⟨t + 1, by omega, rfl, by go_num, by rw [IS'.out], _, by rw [Pl.writesT_no HIN.out]; exact HA.out⟩
        | true =>
          replace IS' : Hid (Pl.anyT N B (t + 1) = true) := IS'
          cases g with
          | false =>
            have HIN : Hid (Pl.inW N B L t = true) := HNW.out
            obtain ⟨ln, hln⟩ : ∃ ln, ln = (Pl.writesT N B L t).length := ⟨_, rfl⟩
            have hle := Pl.writesT_len (N := N) (B := B) (L := L) t
            rw [← hln] at hle
            have ow := HA.out.rw_
            rw [← hln] at ow
            have OW : Hid (wr.ownsRow (w2.heap.size + 1) 3 1 v ln (iV15 (Pl.writesT N B L t))) := ow
            have HLN : Hid (ln = (Pl.writesT N B L t).length) := hln
            obtain ⟨q1, q2'', q3, q4⟩ := HI0.out
            have k2 := hA.x9.k2
            have f2 := hA.x9.f2
            clear ow hln hA
            go_wp2_with (first | (go_at_call 23; refine HCALL.out.mono ?_; rintro e w3 ⟨rfl, rfl⟩) | (at_builtin; refine wpList_append_own _ rfl _ _ 23 rfl (w2.heap.size + 1) 3 i0 (.int .i64 0) 1 8 Tryd.underlying23 q1 q2'' q3 q4 rfl (by decide) v ln (iV15 (Pl.writesT N B L t)) rfl (OW.out.alloc _) ⟨_, 0, none⟩ 1 1 [.int .i64 (t : Int)] rfl rfl (cell_one_new _ _ _) (by simp [Value.oneCell']) (by unfold maxLen; omega) (by omega) (by simp; omega) ?_; go_loud (intro v' w1 hown' hgrow _; obtain ⟨k2', f2'⟩ := HA.out.mid hgrow; obtain ⟨g', cap', rfl⟩ := ownsRow_succ hown')))
            go_roundg (N + 2 - (t + 1))
            case measure => omega
            case rel => exact ⟨t + 1, by omega, rfl, by go_num, by rw [IS'.out], _, by rw [Pl.writesT_yes HIN.out]; exact HA.out.grown HLN.out hown' hgrow⟩
          | true =>
            have HIN : Hid (Pl.inW N B L t = false) := HNW.out
            clear hA
            go_wp2_with (go_at_call 23; refine HCALL.out.mono ?_; rintro e w3 ⟨rfl, rfl⟩)
            go_roundg (N + 2 - (t + 1))
            case measure => omega
            case rel => exact ⟨t + 1, by omega, rfl, by go_num, by rw [IS'.out], _, by rw [Pl.writesT_no HIN.out]; exact HA.out⟩
    · have hi2 : ¬ (t : Int) < (N : Int) + 2 := by omega
      have htN : t = N + 2 := by omega
      have HE : Hid (C15 w w.heap.size w2.heap.size 0 [] (Pl.writesT N B L (N + 2)) (.slice none 0 0) v wr) := by rw [htN] at HA; exact HA
      have HSE : Hid (s = Pl.anyT N B (N + 2)) := by show _ = _; rw [HIS.out, htN]
      clear htN hg HA hsz IS HIS HG
      cases s with
      | false =>
        obtain ⟨k0', k1', k2', f0', f1', f2'⟩ := hA.x6
        clear hA
        go_wp2_with fail
        refine bodyPost_ret (ret_cell_tmp rfl _ _ ⟨w.heap.size, 0, none⟩ (.agg #[.int .i64 0, .slice none 0 0, .slice none 0 0]) rfl (by go_simp)) rfl ?_
        exact choose_none (HGO.out _ HSE.out) (by rw [HE0.out]; rfl) (stored15_all HE.out.hb HE.out.hb.size (Nat.le_refl _) _ _ _)
      | true =>
        clear hA
        go_wp2_with fail
        go_loopg [11] 5 (fun g s11 wr => ∃ t : Nat, t ≤ 4 ∧ g = 5 - t ∧ s11 = .int .i64 ((t : Int) + 1) ∧ ∃ vr vw, C15 w w.heap.size w2.heap.size (Pl.bestT N B L t).1 (Pl.bestT N B L t).2 (Pl.writesT N B L (N + 2)) vr vw wr)
        case atStart => exact ⟨0, Nat.zero_le _, rfl, rfl, _, _, HE.out⟩
        case round =>
          obtain ⟨t, ht, rfl, rfl, vr, vw, hA⟩ := hrel
          clear HE
          have HA : Hid (C15 w w.heap.size w2.heap.size (Pl.bestT N B L t).1 (Pl.bestT N B L t).2 (Pl.writesT N B L (N + 2)) vr vw wr) := hA
          by_cases hlt : t < 4
          · have hi4 : ((t : Int) + 1) ≤ 4 := by omega
            have hrd := HRD.out wr ((t : Int) + 1) hA.hb
            have HRD' : Hid (Calls Tryd.prog 24 #[.int .i64 (N : Int), .slice a0 N k0, .slice a m cap, .int .i64 ((t : Int) + 1)] wr (ReadsAns wr N B L ((t : Int) + 1))) := hrd
            clear hrd hA
            go_wp2_with fail
            refine HRD'.out.mono ?_
            rintro e w3 ⟨v3, rfl, hown, hb3⟩
            have HB3 : Hid (Below wr.heap.size wr w3) := hb3
            have HO : Hid (w3.ownsRow wr.heap.size 3 1 v3 (Pl.ansL N B L ((t : Int) + 1)).length (iV15 (Pl.ansL N B L ((t : Int) + 1)))) := hown
            obtain ⟨ra, rc, rfl, _, _⟩ := RowI.of_owns (k := .i64) hown
            have hA3 := HA.out.below hb3
            obtain ⟨pa, pc, rfl, _, _⟩ := RowI.of_owns (k := .i64) hA3.rr
            obtain ⟨k0', k1', k2', f0', f1', f2'⟩ := hA3.x9
            obtain ⟨ln, hln⟩ : ∃ ln, ln = (Pl.ansL N B L ((t : Int) + 1)).length := ⟨_, rfl⟩
            obtain ⟨lr, hlr⟩ : ∃ lr, lr = (Pl.bestT N B L t).2.length := ⟨_, rfl⟩
            obtain ⟨bw, hbw⟩ : ∃ bw, bw = (Pl.bestT N B L t).1 := ⟨_, rfl⟩
            obtain ⟨cb, hcb⟩ : ∃ cb, cb = Pl.canB N B L ((t : Int) + 1) := ⟨_, rfl⟩
            have HLN : Hid (ln = (Pl.ansL N B L ((t : Int) + 1)).length) := hln
            have HLR : Hid (lr = (Pl.bestT N B L t).2.length) := hlr
            have HBW : Hid (bw = (Pl.bestT N B L t).1) := hbw
            have HCB : Hid (cb = Pl.canB N B L ((t : Int) + 1)) := hcb
            rw [← hlr] at k1'
            rw [← hbw] at k0'
            rw [← hln, ← hcb]
            clear hown hb3 hA3 hln hlr hbw hcb HRD'
            cases cb with
            | false =>
              have HN : Hid (Pl.bestT N B L (t + 1) = Pl.bestT N B L t) := Pl.bestT_no (.inl HCB.out.symm)
              go_wp2_with fail
              go_roundg (5 - (t + 1))
              case measure => omega
              case rel => exact ⟨t + 1, by omega, rfl, by go_num, _, _, by rw [HN.out]; exact HA.out.below HB3.out⟩
            | true =>
              by_cases hz : bw = 0
              · have HN : Hid (Pl.bestT N B L (t + 1) = ((t : Int) + 1, Pl.ansL N B L ((t : Int) + 1))) := Pl.bestT_yes HCB.out.symm (.inl (HBW.out.symm.trans hz))
                have hz' : (bw == 0) = true := by rw [hz]; rfl
                clear hz
                go_wp2_with fail
                go_roundg (5 - (t + 1))
                case measure => omega
                case rel => exact ⟨t + 1, by omega, rfl, by go_num, _, _, by rw [HN.out]; have h := HA.out.took (way := (t : Int) + 1) HB3.out HO.out; rw [← HLN.out] at h; exact h⟩
              · have hz' : (bw == 0) = false := by rw [beq_eq_false_iff_ne]; exact hz
                by_cases hll : ln < lr
                · have HN : Hid (Pl.bestT N B L (t + 1) = ((t : Int) + 1, Pl.ansL N B L ((t : Int) + 1))) := Pl.bestT_yes HCB.out.symm (.inr (by rw [← HLN.out, ← HLR.out]; exact hll))
                  have t3 : decide ((ln : Int) < (lr : Int)) = true := decide_eq_true (by omega)
                  have t4 : decide (ln < lr) = true := decide_eq_true hll
                  clear hz hll
                  go_wp2_with fail
                  go_roundg (5 - (t + 1))
                  case measure => omega
                  case rel => exact ⟨t + 1, by omega, rfl, by go_num, _, _, by rw [HN.out]; have h := HA.out.took (way := (t : Int) + 1) HB3.out HO.out; rw [← HLN.out] at h; exact h⟩
                · have HN : Hid (Pl.bestT N B L (t + 1) = Pl.bestT N B L t) := Pl.bestT_no (.inr ⟨fun e => hz (HBW.out.trans e), by rw [← HLN.out, ← HLR.out]; exact hll⟩)
                  have t3 : decide ((ln : Int) < (lr : Int)) = false := decide_eq_false (by omega)
                  have t4 : decide (ln < lr) = false := decide_eq_false hll
                  clear hz hll
                  go_wp2_with fail
                  go_roundg (5 - (t + 1))
                  case measure => omega
                  case rel => exact ⟨t + 1, by omega, rfl, by go_num, _, _, by rw [HN.out]; exact HA.out.below HB3.out⟩
          · have hi4 : ¬ ((t : Int) + 1) ≤ 4 := by omega
            have h4 : t = 4 := by omega
            rw [h4] at HA
            obtain ⟨e1, e2, e3⟩ := HCW.out (HGO.out _ HSE.out)
            have HF : Hid (C15 w w.heap.size w2.heap.size (Pl.chooseW (N : Int) N B L) (Pl.chooseR (N : Int) N B L) (Pl.chooseP (N : Int) N B L) vr vw wr) := by show C15 _ _ _ _ _ _ _ _ _; rw [e1, e2, e3]; exact HA.out
            obtain ⟨pa, pc, rfl, _, _⟩ := RowI.of_owns (k := .i64) hA.rr
            obtain ⟨qa, qc, rfl, _, _⟩ := RowI.of_owns (k := .i64) hA.rw_
            obtain ⟨k0', k1', k2', f0', f1', f2'⟩ := hA.x6
            obtain ⟨j0, j1, j2, _, _, _⟩ := HF.out.x9
            obtain ⟨fw, hfw⟩ : ∃ fw, fw = Pl.chooseW (N : Int) N B L := ⟨_, rfl⟩
            have HFW : Hid (fw = Pl.chooseW (N : Int) N B L) := hfw
            rw [← hfw] at j0
            obtain ⟨l1, hl1⟩ : ∃ l1, l1 = (Pl.bestT N B L t).2.length := ⟨_, rfl⟩
            obtain ⟨l2, hl2⟩ : ∃ l2, l2 = (Pl.writesT N B L (N + 2)).length := ⟨_, rfl⟩
            rw [← hl1] at HF j1
            rw [← hl2] at HF j2
            clear hl1 hl2 hA HA e1 e2 e3 h4 hfw
            go_wp2_with fail
            refine bodyPost_ret (ret_cell_tmp rfl _ _ ⟨w.heap.size, 0, none⟩ (.agg #[.int .i64 fw, .slice pa l1 pc, .slice qa l2 qc]) rfl (by go_simp)) rfl ?_
            have h := HF.out.ends HE0.out (.int .i64 fw)
            rw [← HFW.out] at h
            exact h
end Go.Proofs.YtlkbdhejfmljlaaDoor
