import Derived.Test.YtdgkhjgnjfgnlaaGreatDrvMath
import Derived.Test.YtdgkhjgnjfgnlaaGreatMKitA
namespace Go.Proofs.YtdgkhjgnjfgnlaaGreat
open Go.RowKit Go.Maps
def hdrD : Value → Option (DataW Unit × List MemPlace)
 | .slice none 0 0 => some (.nil, [])
 | .slice (some ⟨g, 0, none⟩) n c => some (.agg [.lit (.int .i64 g), .lit (.int .i64 n), .lit (.int .i64 c)], [])
 | _ => none
theorem hdrD_nil : hdrD (.slice none 0 0) = some (.nil, []) := rfl
theorem hdrD_some (g n c : Nat) : hdrD (.slice (some ⟨g, 0, none⟩) n c) = some (.agg [.lit (.int .i64 g), .lit (.int .i64 n), .lit (.int .i64 c)], []) := rfl
theorem hdrD_shape {v : Value} {y : DataW Unit × List MemPlace} (h : hdrD v = some y) : v = .slice none 0 0 ∧ y = (.nil, []) ∨ ∃ g n c : Nat, v = .slice (some ⟨g, 0, none⟩) n c ∧ y = (.agg [.lit (.int .i64 g), .lit (.int .i64 n), .lit (.int .i64 c)], []) := by
 unfold hdrD at h
 split at h
 ·cases h; exact .inl ⟨rfl, rfl⟩
 ·cases h; exact .inr ⟨_, _, _, rfl, rfl⟩
 ·cases h
theorem hdrD_inj {v v' : Value} {d : DataW Unit} {ps ps' : List MemPlace} (h : hdrD v = some (d, ps)) (h' : hdrD v' = some (d, ps')) : v = v' := by
 rcases hdrD_shape h with ⟨rfl, e⟩ | ⟨g, n, c, rfl, e⟩ <;> rcases hdrD_shape h' with ⟨rfl, e'⟩ | ⟨g', n', c', rfl, e'⟩
 ·rfl
 ·simp only [Prod.mk.injEq] at e e'; rw [e.1] at e'; exact absurd e'.1 (by simp)
 ·simp only [Prod.mk.injEq] at e e'; rw [e.1] at e'; exact absurd e'.1 (by simp)
 ·simp only [Prod.mk.injEq] at e e'; rw [e.1] at e'
  have := e'.1
  simp only [DataW.agg.injEq, List.cons.injEq, DataW.lit.injEq, Lit.int.injEq, Int.natCast_inj, and_true, true_and] at this
  obtain ⟨rfl, rfl, rfl⟩ := this
  rfl
theorem hdrD_owns {w : World} {base e size n : Nat} {v : Value} {xs : List Value} (h : w.ownsRow base e size v n xs) : ∃ d, hdrD v = some (d, []) := by
 rcases h.2 with ⟨rfl, _⟩ | ⟨g, cap, cur, rfl, _⟩
 ·exact ⟨_, hdrD_nil⟩
 ·exact ⟨_, hdrD_some _ _ _⟩
def keyL (i : Nat) : Lit := .int .i64 i
theorem keyL_inj {i j : Nat} (h : keyL i = keyL j) : i = j := by
 unfold keyL at h
 injection h with _ h2
 omega
theorem keyOf_at (i : Nat) (h : i ≤ 9223372036854775807) : keyOf Tryz.prog 3 (.int .i64 i) = some (keyL i) :=
 keyOf_int_mk Tryz.underlying3 (WalkArith.wf_i64 (by omega))
theorem isKeyL (i : Nat) (h : i ≤ 9223372036854775807) : WideAt.IsKeyLit (keyL i) := (int_keyed Tryz.underlying3).key (keyOf_at i h)
structure MapIn (w : World) (mb : Nat) (hd : Nat → Value) (D : Dr) (M : DataW Unit) : Prop where
 owns : w.ownsMap Tryz.prog 3 hdrD mb (Maps.size M) M
 at_ : ∀ i, i < D.safe.length → ∀ d, hdrD (hd i) = some (d, []) → M.atKey (keyL i) .nil = d
 has : ∀ i, i < D.safe.length → Maps.has M (keyL i) = !(D.writes i).isEmpty
 keys : ∀ kl, Maps.has M kl = true → ∃ i, i < D.safe.length ∧ kl = keyL i
structure DrvIn (w : World) (p sb pb mb : Nat) (hd : Nat → Value) (D : Dr) : Prop where
 ok : D.Ok
 self : w.heap[p]? = some (.cells #[.slice (some ⟨sb, 0, none⟩) D.safe.length D.safe.length, .slice (some ⟨pb, 0, none⟩) D.safe.length D.safe.length, .map (some mb), .bool D.dead, .bool D.goes, .int .i64 D.left] 107 (0, 0))
 safe : ∃ cur, w.heap[sb]? = some (.cells cur 128 (0, 0)) ∧ cur.toList = flat D.safe
 spoilt : ∃ cur, w.heap[pb]? = some (.cells cur 4 (0, 0)) ∧ cur.toList = D.spoilt.map Value.bool
 map : ∃ M, MapIn w mb hd D M
 rows : ∀ i, w.ownsRow 0 128 64 (hd i) (D.writes i).length (flat (D.writes i))
 nil : ∀ i, D.writes i = [] → hd i = .slice none 0 0
 off : ∀ i, (hd i).ownBlock ≠ some sb
 apart : ∀ i j, i ≠ j → ∀ k, (hd i).ownBlock = some k → (hd j).ownBlock ≠ some k
def Foot (p sb pb mb : Nat) (hd : Nat → Value) (k : Nat) : Prop := k = p ∨ k = sb ∨ k = pb ∨ k = mb ∨ ∃ i, (hd i).ownBlock = some k
def DriveAt (w : World) (p : Nat) (D : Dr) (F : Nat → Prop) : Prop := ∃ sb pb mb hd, DrvIn w p sb pb mb hd D ∧ ∀ k, Foot p sb pb mb hd k → F k
theorem DrvIn.lt {w : World} {p sb pb mb : Nat} {hd : Nat → Value} {D : Dr} (h : DrvIn w p sb pb mb hd D) : ∀ k, Foot p sb pb mb hd k → k < w.heap.size := by
 intro k hk
 rcases hk with rfl | rfl | rfl | rfl | ⟨i, hi⟩
 ·exact (Array.getElem?_eq_some_iff.1 h.self).1
 ·obtain ⟨cur, hc, _⟩ := h.safe; exact (Array.getElem?_eq_some_iff.1 hc).1
 ·obtain ⟨cur, hc, _⟩ := h.spoilt; exact (Array.getElem?_eq_some_iff.1 hc).1
 ·obtain ⟨M, hM⟩ := h.map; exact hM.owns.lt
 ·exact ((h.rows i).lt k hi).2
structure Others (p sb pb mb : Nat) (hd : Nat → Value) : Prop where
 p_sb : p ≠ sb
 p_pb : p ≠ pb
 p_mb : p ≠ mb
 sb_pb : sb ≠ pb
 sb_mb : sb ≠ mb
 pb_mb : pb ≠ mb
 r_p : ∀ i, (hd i).ownBlock ≠ some p
 r_sb : ∀ i, (hd i).ownBlock ≠ some sb
 r_pb : ∀ i, (hd i).ownBlock ≠ some pb
 r_mb : ∀ i, (hd i).ownBlock ≠ some mb
theorem DrvIn.others {w : World} {p sb pb mb : Nat} {hd : Nat → Value} {D : Dr} (h : DrvIn w p sb pb mb hd D) : Others p sb pb mb hd := by
 obtain ⟨c1, hs, _⟩ := h.safe
 obtain ⟨c2, hp, _⟩ := h.spoilt
 obtain ⟨M, hM⟩ := h.map
 obtain ⟨es, cl, hm, _⟩ := hM.owns
 have hself := h.self
 have row : ∀ i k, (hd i).ownBlock = some k → ∃ cur, w.heap[k]? = some (.cells cur 128 (0, 0)) := by
  intro i k hk
  rcases (h.rows i).2 with ⟨e, _⟩ | ⟨g, cap, cur, e, _, hg, _⟩
  ·rw [e] at hk; simp [Value.ownBlock] at hk
  ·rw [e] at hk; simp [Value.ownBlock] at hk; subst hk; exact ⟨cur, hg⟩
 refine ⟨?_, ?_, ?_, ?_, ?_, ?_, ?_, h.off, ?_, ?_⟩
 ·rintro rfl; rw [hself] at hs; simp at hs
 ·rintro rfl; rw [hself] at hp; simp at hp
 ·rintro rfl; rw [hself] at hm; simp at hm
 ·rintro rfl; rw [hs] at hp; simp at hp
 ·rintro rfl; rw [hs] at hm; simp at hm
 ·rintro rfl; rw [hp] at hm; simp at hm
 ·intro i e; obtain ⟨cur, hg⟩ := row i p e; rw [hself] at hg; simp at hg
 ·intro i e; obtain ⟨cur, hg⟩ := row i pb e; rw [hp] at hg; simp at hg
 ·intro i e; obtain ⟨cur, hg⟩ := row i mb e; rw [hm] at hg; simp at hg
theorem MapIn.only {w w' : World} {mb : Nat} {hd : Nat → Value} {D : Dr} {M : DataW Unit} (h : MapIn w mb hd D M) {G : Nat → Prop} (hg : Only G w w') (hn : ¬ G mb) : MapIn w' mb hd D M := by
 refine ⟨?_, h.at_, h.has, h.keys⟩
 have hlt := h.owns.lt
 obtain ⟨es, cl, hb, rest⟩ := h.owns
 exact ⟨es, cl, (hg.block mb hlt hn).trans hb, rest⟩
theorem ownsRow_only {w w' : World} {G : Nat → Prop} (hg : Only G w w') {b t s n : Nat} {v : Value} {l : List Value} (h : w.ownsRow b t s v n l) (hn : ∀ k, v.ownBlock = some k → ¬ G k) : w'.ownsRow b t s v n l := by
 refine ⟨h.1, ?_⟩
 rcases h.2 with h0 | ⟨g, cap, cur, rfl, h1, h2, rest⟩
 ·exact .inl h0
 ·exact .inr ⟨g, cap, cur, rfl, h1, (hg.block g (Array.getElem?_eq_some_iff.1 h2).1 (hn g rfl)).trans h2, rest⟩
theorem DrvIn.only {w w' : World} {p sb pb mb : Nat} {hd : Nat → Value} {D : Dr} (h : DrvIn w p sb pb mb hd D) {G : Nat → Prop} (hg : Only G w w') (hn : ∀ k, Foot p sb pb mb hd k → ¬ G k) : DrvIn w' p sb pb mb hd D := by
 have hlt := h.lt
 obtain ⟨c1, hs, hs2⟩ := h.safe
 obtain ⟨c2, hp, hp2⟩ := h.spoilt
 obtain ⟨M, hM⟩ := h.map
 have f1 : Foot p sb pb mb hd p := .inl rfl
 have f2 : Foot p sb pb mb hd sb := .inr (.inl rfl)
 have f3 : Foot p sb pb mb hd pb := .inr (.inr (.inl rfl))
 have f4 : Foot p sb pb mb hd mb := .inr (.inr (.inr (.inl rfl)))
 exact ⟨h.ok, (hg.block p (hlt p f1) (hn p f1)).trans h.self, ⟨c1, (hg.block sb (hlt sb f2) (hn sb f2)).trans hs, hs2⟩, ⟨c2, (hg.block pb (hlt pb f3) (hn pb f3)).trans hp, hp2⟩,
  ⟨M, hM.only hg (hn mb f4)⟩, fun i => ownsRow_only hg (h.rows i) (fun k hk => hn k (.inr (.inr (.inr (.inr ⟨i, hk⟩))))), h.nil, h.off, h.apart⟩
theorem DriveAt.only {w w' : World} {p : Nat} {D : Dr} {F G : Nat → Prop} (h : DriveAt w p D F) (hg : Only G w w') (hn : ∀ k, k < w.heap.size → F k → ¬ G k) : DriveAt w' p D F := by
 obtain ⟨sb, pb, mb, hd, hin, hf⟩ := h
 exact ⟨sb, pb, mb, hd, hin.only hg (fun k hk => hn k (hin.lt k hk) (hf k hk)), hf⟩
theorem DriveAt.below {w w' : World} {p : Nat} {D : Dr} {F : Nat → Prop} (h : DriveAt w p D F) (hb : Below w.heap.size w w') : DriveAt w' p D F :=
 h.only (Only.of_below hb (fun _ => False)) (fun _ _ _ hf => hf)
theorem DriveAt.mono {w : World} {p : Nat} {D : Dr} {F G : Nat → Prop} (h : DriveAt w p D F) (hs : ∀ k, F k → G k) : DriveAt w p D G := by
 obtain ⟨sb, pb, mb, hd, hin, hf⟩ := h
 exact ⟨sb, pb, mb, hd, hin, fun k hk => hs k (hf k hk)⟩
theorem DriveAt.ok {w : World} {p : Nat} {D : Dr} {F : Nat → Prop} (h : DriveAt w p D F) : D.Ok := by obtain ⟨_, _, _, _, hin, _⟩ := h; exact hin.ok
theorem DriveAt.lt {w : World} {p : Nat} {D : Dr} {F : Nat → Prop} (h : DriveAt w p D F) : p < w.heap.size := by obtain ⟨_, _, _, _, hin, _⟩ := h; exact hin.lt p (.inl rfl)
end Go.Proofs.YtdgkhjgnjfgnlaaGreat
namespace Go.Proofs.YtdgkhjgnjfgnlaaGreat
open Go.RowKit Go.Maps
structure Cells (w : World) (p sb pb mb : Nat) (D : Dr) : Prop where
 c0 : w.cell? ⟨p, 0, none⟩ = some (.slice (some ⟨sb, 0, none⟩) D.safe.length D.safe.length)
 c1 : w.cell? ⟨p, 1, none⟩ = some (.slice (some ⟨pb, 0, none⟩) D.safe.length D.safe.length)
 c2 : w.cell? ⟨p, 2, none⟩ = some (.map (some mb))
 c3 : w.cell? ⟨p, 3, none⟩ = some (.bool D.dead)
 c4 : w.cell? ⟨p, 4, none⟩ = some (.bool D.goes)
 c5 : w.cell? ⟨p, 5, none⟩ = some (.int .i64 D.left)
 f : ∀ j, w.frozen? ⟨p, j, none⟩ = false
theorem DrvIn.cells {w : World} {p sb pb mb : Nat} {hd : Nat → Value} {D : Dr} (h : DrvIn w p sb pb mb hd D) : Cells w p sb pb mb D :=
  ⟨by rw [cell_of_row w p 0 _ _ _ h.self]; rfl, by rw [cell_of_row w p 1 _ _ _ h.self]; rfl, by rw [cell_of_row w p 2 _ _ _ h.self]; rfl, by rw [cell_of_row w p 3 _ _ _ h.self]; rfl,
   by rw [cell_of_row w p 4 _ _ _ h.self]; rfl, by rw [cell_of_row w p 5 _ _ _ h.self]; rfl, fun j => frozen_of_row w p j _ _ h.self⟩
set_option maxRecDepth 100000 in
set_option maxHeartbeats 400000 in
theorem has_any {w : World} {p : Nat} {D : Dr} {F : Nat → Prop} (h : DriveAt w p D F) (i : Int) :
  Calls Tryz.prog 99 #[.pointer (some ⟨p, 0, none⟩), .int .i64 i] w fun e w' => e = .returned (.bool (D.hasB i)) ∧ w' = w := by
 obtain ⟨sb, pb, mb, hd, hin, _⟩ := h
 have hc := hin.cells
 have c0 := hc.c0
 have hle := hin.ok.le
 obtain ⟨n, hn⟩ : ∃ n, n = D.safe.length := ⟨_, rfl⟩
 have E : Hid (D.hasB i = (decide (0 ≤ i) && decide (i < (n : Int)))) := by rw [hn]; rfl
 rw [← hn] at c0 hle
 clear hc hin hn
 by_cases h0 : 0 ≤ i
 ·by_cases h1 : i < (n : Int)
  ·go_enter Tryz.func99, Tryz.ntmps99
   go_wp2
   go_ret
   exact ⟨ret_bool (by rw [E.out]; simp [h0, h1]), rfl⟩
  ·go_enter Tryz.func99, Tryz.ntmps99
   go_wp2
   go_ret
   exact ⟨ret_bool (by rw [E.out]; simp [h0, h1]), rfl⟩
 ·go_enter Tryz.func99, Tryz.ntmps99
  go_wp2
  go_ret
  exact ⟨ret_bool (by rw [E.out]; simp; omega), rfl⟩
set_option maxRecDepth 100000 in
set_option maxHeartbeats 400000 in
theorem runs_any {w : World} {p : Nat} {D : Dr} {F : Nat → Prop} (h : DriveAt w p D F) :
    Calls Tryz.prog 98 #[.pointer (some ⟨p, 0, none⟩)] w fun e w' => e = .returned (.int .i64 (D.runsE : Nat)) ∧ w' = w := by
  obtain ⟨sb, pb, mb, hd, hin, _⟩ := h
  have hc := hin.cells
  have c3 := hc.c3
  have c4 := hc.c4
  have c5 := hc.c5
  have hle := hin.ok.left
  obtain ⟨n, hn⟩ : ∃ n, n = D.left := ⟨_, rfl⟩
  rw [← hn] at c5 hle
  clear hc hin
  cases hd : D.dead with
  | true =>
    have E : Hid (D.runsE = 40) := by unfold Hid Dr.runsE; rw [hd]; rfl
    rw [hd] at c3
    clear hn hd
    go_enter Tryz.func98, Tryz.ntmps98
    go_wp2
    go_ret
    exact ⟨ret_int (by rw [E.out]; rfl), rfl⟩
  | false =>
    cases hg : D.goes with
    | false =>
      have E : Hid (D.runsE = 0) := by unfold Hid Dr.runsE; rw [hd, hg]; rfl
      rw [hd] at c3
      rw [hg] at c4
      clear hn hd hg
      go_enter Tryz.func98, Tryz.ntmps98
      go_wp2
      go_ret
      exact ⟨ret_int (by rw [E.out]; rfl), rfl⟩
    | true =>
      by_cases h0 : n = 0
      · have E : Hid (D.runsE = 42) := by unfold Hid Dr.runsE; rw [hd, hg, ← hn, h0]; rfl
        rw [hd] at c3
        rw [hg] at c4
        subst h0
        clear hn hd hg
        go_enter Tryz.func98, Tryz.ntmps98
        go_wp2
        go_ret
        exact ⟨ret_int (by rw [E.out]; rfl), rfl⟩
      · have E : Hid (D.runsE = 0) := by
          unfold Hid Dr.runsE; rw [hd, hg, ← hn]
          have : (n == 0) = false := by simpa using h0
          rw [this]; rfl
        have hne : ((n : Int) == 0) = false := by rw [beq_eq_false_iff_ne]; omega
        rw [hd] at c3
        rw [hg] at c4
        clear hn hd hg
        go_enter Tryz.func98, Tryz.ntmps98
        go_wp2
        go_ret
        exact ⟨ret_int (by rw [E.out]; rfl), rfl⟩
theorem runsE_le (D : Dr) : D.runsE ≤ 42 := by unfold Dr.runsE; (repeat' split) <;> omega
set_option maxRecDepth 100000 in
set_option maxHeartbeats 400000 in
theorem reaches_any {w : World} {p : Nat} {D : Dr} {F : Nat → Prop} (h : DriveAt w p D F) (i : Int) :
  Calls Tryz.prog 68 #[.pointer (some ⟨p, 0, none⟩), .int .i64 i] w fun e w' => e = .returned (.int .i64 (D.reachE i : Nat)) ∧ w' = w := by
 have hr := runs_any h
 have hh := has_any h i
 obtain ⟨r, er⟩ : ∃ r, r = D.runsE := ⟨_, rfl⟩
 rw [← er] at hr
 by_cases h0 : r = 0
 ·cases hb : D.hasB i with
  | true =>
   have E : Hid (D.reachE i = 0) := by unfold Hid Dr.reachE; rw [← er, if_pos h0, hb]; rfl
   rw [hb] at hh
   subst h0
   clear er hb
   go_enter Tryz.func68, Tryz.ntmps68
   go_wp2_with fail
   refine hr.mono ?_
   rintro e w' ⟨rfl, rfl⟩
   go_wp2_with fail
   refine hh.mono ?_
   rintro e w' ⟨rfl, rfl⟩
   go_wp2
   go_ret
   exact ⟨ret_int (by rw [E.out]; rfl), rfl⟩
  | false =>
   have E : Hid (D.reachE i = 70) := by unfold Hid Dr.reachE; rw [← er, if_pos h0, hb]; rfl
   rw [hb] at hh
   subst h0
   clear er hb
   go_enter Tryz.func68, Tryz.ntmps68
   go_wp2_with fail
   refine hr.mono ?_
   rintro e w' ⟨rfl, rfl⟩
   go_wp2_with fail
   refine hh.mono ?_
   rintro e w' ⟨rfl, rfl⟩
   go_wp2
   go_ret
   exact ⟨ret_int (by rw [E.out]; rfl), rfl⟩
 ·have E : Hid (D.reachE i = r) := by unfold Hid Dr.reachE; rw [← er, if_neg h0]
  have hne : ((r : Int) == 0) = false := by rw [beq_eq_false_iff_ne]; omega
  have hle : r ≤ 42 := by rw [er]; exact runsE_le D
  clear er
  go_enter Tryz.func68, Tryz.ntmps68
  go_wp2_with fail
  refine hr.mono ?_
  rintro e w' ⟨rfl, rfl⟩
  go_wp2
  go_ret
  exact ⟨ret_int (by rw [E.out]), rfl⟩
theorem reachE_le (D : Dr) (i : Int) : D.reachE i ≤ 70 := by have := runsE_le D; unfold Dr.reachE; (repeat' split) <;> omega
set_option maxRecDepth 100000 in
set_option maxHeartbeats 400000 in
theorem takes_any {w : World} {p : Nat} {D : Dr} {F : Nat → Prop} (h : DriveAt w p D F) (i : Int) (s : ByteArray) :
  Calls Tryz.prog 94 #[.pointer (some ⟨p, 0, none⟩), .int .i64 i, .string s] w fun e w' => e = .returned (.int .i64 (D.takeE i s.size : Nat)) ∧ w' = w := by
 have hr := reaches_any h i
 obtain ⟨r, er⟩ : ∃ r, r = D.reachE i := ⟨_, rfl⟩
 rw [← er] at hr
 by_cases h0 : r = 0
 ·by_cases hs : s.size = 64
  ·have E : Hid (D.takeE i s.size = 0) := by unfold Hid Dr.takeE; rw [← er, if_pos h0, if_pos hs]
   have hne : ((s.size : Int) == 64) = true := by rw [beq_iff_eq]; omega
   subst h0
   have Hs : Hid (s.size = 64) := hs
   clear er hs
   go_enter Tryz.func94, Tryz.ntmps94
   go_wp2_with fail
   refine hr.mono ?_
   rintro e w' ⟨rfl, rfl⟩
   go_wp2
   go_ret
   exact ⟨ret_int (by rw [E.out]; rfl), rfl⟩
  ·have E : Hid (D.takeE i s.size = 1) := by unfold Hid Dr.takeE; rw [← er, if_pos h0, if_neg hs]
   have hne : ((s.size : Int) == 64) = false := by rw [beq_eq_false_iff_ne]; omega
   subst h0
   clear er hs
   go_enter Tryz.func94, Tryz.ntmps94
   go_wp2_with fail
   refine hr.mono ?_
   rintro e w' ⟨rfl, rfl⟩
   go_wp2
   go_ret
   exact ⟨ret_int (by rw [E.out]; rfl), rfl⟩
 ·have E : Hid (D.takeE i s.size = r) := by unfold Hid Dr.takeE; rw [← er, if_neg h0]
  have hne : ((r : Int) == 0) = false := by rw [beq_eq_false_iff_ne]; omega
  have hle : r ≤ 70 := by rw [er]; exact reachE_le D i
  clear er
  go_enter Tryz.func94, Tryz.ntmps94
  go_wp2_with fail
  refine hr.mono ?_
  rintro e w' ⟨rfl, rfl⟩
  go_wp2
  go_ret
  exact ⟨ret_int (by rw [E.out]), rfl⟩
set_option maxRecDepth 100000 in
set_option maxHeartbeats 400000 in
theorem dead_any {w : World} {p : Nat} {D : Dr} {F : Nat → Prop} (h : DriveAt w p D F) :
  Calls Tryz.prog 93 #[.pointer (some ⟨p, 0, none⟩)] w fun e w' => e = .returned (.bool D.dead) ∧ w' = w := by
 obtain ⟨sb, pb, mb, hd, hin, _⟩ := h
 have c3 := hin.cells.c3
 obtain ⟨b, hb⟩ : ∃ b, b = D.dead := ⟨_, rfl⟩
 rw [← hb] at c3 ⊢
 clear hin hb
 go_enter Tryz.func93, Tryz.ntmps93
 go_wp2
 go_ret
 exact ⟨rfl, rfl⟩
end Go.Proofs.YtdgkhjgnjfgnlaaGreat
namespace Go.Proofs.YtdgkhjgnjfgnlaaGreat
open Go.RowKit Go.Maps
def One (p : Nat) : Nat → Prop := fun k => k = p
theorem DrvIn.turn {w w' : World} {p sb pb mb : Nat} {hd : Nat → Value} {D D' : Dr} (h : DrvIn w p sb pb mb hd D) (hg : Only (One p) w w')
  (hself : w'.heap[p]? = some (.cells #[.slice (some ⟨sb, 0, none⟩) D'.safe.length D'.safe.length, .slice (some ⟨pb, 0, none⟩) D'.safe.length D'.safe.length, .map (some mb), .bool D'.dead, .bool D'.goes, .int .i64 D'.left] 107 (0, 0)))
  (ok : D'.Ok) (e1 : D'.safe = D.safe) (e2 : D'.spoilt = D.spoilt) (e3 : D'.writes = D.writes) : DrvIn w' p sb pb mb hd D' := by
 have ho := h.others
 obtain ⟨c1, hs, hs2⟩ := h.safe
 obtain ⟨c2, hp, hp2⟩ := h.spoilt
 obtain ⟨M, hM⟩ := h.map
 have lt := h.lt
 refine ⟨ok, hself, ⟨c1, (hg.block sb (lt sb (.inr (.inl rfl))) (fun e => ho.p_sb e.symm)).trans hs, by rw [e1]; exact hs2⟩, ⟨c2, (hg.block pb (lt pb (.inr (.inr (.inl rfl)))) (fun e => ho.p_pb e.symm)).trans hp, by rw [e2]; exact hp2⟩, ⟨M, ?_⟩, ?_, ?_, h.off, h.apart⟩
 ·have h1 := hM.only hg (fun e => ho.p_mb e.symm)
  exact ⟨h1.owns, by rw [e1]; exact h1.at_, by rw [e1, e3]; exact h1.has, by rw [e1]; exact h1.keys⟩
 ·intro i; rw [e3]
  exact ownsRow_only hg (h.rows i) (fun k hk e => ho.r_p i (by rw [hk]; exact congrArg some e))
 ·rw [e3]; exact h.nil
theorem turn1 {w : World} {p j : Nat} {cs : Array Value} {t : TypeId} {v : Value} (h : w.heap[p]? = some (.cells cs t (0, 0))) : Only (One p) w (w.setCell ⟨p, j, none⟩ v) ∧ (w.setCell ⟨p, j, none⟩ v).heap[p]? = some (.cells (cs.setIfInBounds j v) t (0, 0)) :=
 ⟨Only.setCell _ w ⟨p, j, none⟩ v rfl, heap_setCell_same w p j cs t v h⟩
theorem One.in {w w' : World} {p : Nat} {F : Nat → Prop} (h : Only (One p) w w') (hF : F p) : Only F w w' := h.mono fun k hk => by rw [hk]; exact hF
set_option maxRecDepth 100000 in
set_option maxHeartbeats 400000 in
theorem die_any {w : World} {p : Nat} {D : Dr} {F : Nat → Prop} (h : DriveAt w p D F) :
  Calls Tryz.prog 29 #[.pointer (some ⟨p, 0, none⟩)] w fun e w' => e = .returned (.tuple #[]) ∧ DriveAt w' p D.die F ∧ Only F w w' := by
 obtain ⟨sb, pb, mb, hd, hin, hf⟩ := h
 have c3 := hin.cells.c3
 have f3 := hin.cells.f 3
 have H : Hid (DrvIn w p sb pb mb hd D) := hin
 clear hin
 go_enter Tryz.func29, Tryz.ntmps29
 go_wp2
 go_end0
 obtain ⟨g1, g2⟩ := turn1 (j := 3) (v := .bool true) H.out.self
 exact ⟨rfl, ⟨sb, pb, mb, hd, H.out.turn g1 g2 ⟨H.out.ok.pos, H.out.ok.le, H.out.ok.spoilt, H.out.ok.sector, H.out.ok.writes, H.out.ok.out, H.out.ok.left⟩ rfl rfl rfl, hf⟩, One.in g1 (hf p (.inl rfl))⟩
set_option maxRecDepth 100000 in
set_option maxHeartbeats 400000 in
theorem spend_any {w : World} {p : Nat} {D : Dr} {F : Nat → Prop} (h : DriveAt w p D F) (hr : D.runsE = 0) :
  Calls Tryz.prog 96 #[.pointer (some ⟨p, 0, none⟩)] w fun e w' => e = .returned (.tuple #[]) ∧ DriveAt w' p D.spend F ∧ Only F w w' := by
 obtain ⟨sb, pb, mb, hd, hin, hf⟩ := h
 have c4 := hin.cells.c4
 have c5 := hin.cells.c5
 have f5 := hin.cells.f 5
 have hle := hin.ok.left
 obtain ⟨n, hn⟩ : ∃ n, n = D.left := ⟨_, rfl⟩
 cases hg : D.goes with
 | false =>
  have e : D.spend = D := by cases D; simp only at hg; subst hg; rfl
  rw [e]
  rw [hg] at c4
  have H : Hid (DrvIn w p sb pb mb hd D) := hin
  clear hin hr hn e hg
  go_enter Tryz.func96, Tryz.ntmps96
  go_wp2
  go_end0
  exact ⟨rfl, ⟨sb, pb, mb, hd, H.out, hf⟩, Only.refl _ _⟩
 | true =>
  have hpos : 1 ≤ n := by
   unfold Dr.runsE at hr
   rw [hg, ← hn] at hr
   cases n with
   | zero => split at hr <;> simp at hr
   | succ m => omega
  rw [hg] at c4
  rw [← hn] at c5 hle
  have H : Hid (DrvIn w p sb pb mb hd D) := hin
  have N : Hid (n = D.left) := hn
  have G : Hid (D.goes = true) := hg
  clear hin hr hn hg
  go_enter Tryz.func96, Tryz.ntmps96
  go_wp2
  go_end0
  obtain ⟨g1, g2⟩ := turn1 (j := 5) (v := .int .i64 ((n : Int) - 1)) H.out.self
  have e5 : D.spend.left = n - 1 := by show (if D.goes then D.left - 1 else D.left) = _; rw [G.out, N.out]; rfl
  have e6 : (n : Int) - 1 = (D.spend.left : Nat) := by rw [e5]; omega
  refine ⟨rfl, ⟨sb, pb, mb, hd, H.out.turn g1 (by rw [g2, e6]; rfl) H.out.ok.spend rfl rfl rfl, hf⟩, One.in g1 (hf p (.inl rfl))⟩
set_option maxRecDepth 100000 in
set_option maxHeartbeats 400000 in
theorem off_any {w : World} {p : Nat} {D : Dr} {F : Nat → Prop} (h : DriveAt w p D F) (a : Int) (ha : a ≤ 9223372036854775807) :
  Calls Tryz.prog 36 #[.pointer (some ⟨p, 0, none⟩), .int .i64 a] w fun e w' => e = .returned (.tuple #[]) ∧ DriveAt w' p (D.off a) F ∧ Only F w w' := by
 obtain ⟨sb, pb, mb, hd, hin, hf⟩ := h
 have c4 := hin.cells.c4
 have f4 := hin.cells.f 4
 have c5 := hin.cells.c5
 have f5 := hin.cells.f 5
 have H : Hid (DrvIn w p sb pb mb hd D) := hin
 have ok : (D.off a).Ok := ⟨hin.ok.pos, hin.ok.le, hin.ok.spoilt, hin.ok.sector, hin.ok.writes, hin.ok.out, by show a.toNat ≤ _; omega⟩
 have OK : Hid (D.off a).Ok := ok
 clear hin ok
 obtain ⟨m, hm⟩ : ∃ m : Nat, m = a.toNat := ⟨_, rfl⟩
 have hmax : ∀ (ts : Array TypeId) (ty : TypeId) (W : World), (Builtin.max_ ts ty #[.int .i64 a, .int .i64 0]).run Tryz.prog W = .ok (.int .i64 (m : Int)) W := by
  intro ts ty W
  have e : (if (0 : Int) > a then (0 : Int) else a) = (m : Int) := by split <;> omega
  simp [Builtin.max_, Builtin.max2]
  omega
 have E : Hid (m = a.toNat) := hm
 clear hm ha
 go_enter Tryz.func36, Tryz.ntmps36
 go_wp2
 go_end0
 obtain ⟨g1, g2⟩ := turn1 (j := 4) (v := .bool true) H.out.self
 obtain ⟨k1, k2⟩ := turn1 (j := 5) (v := .int .i64 (m : Nat)) g2
 refine ⟨rfl, ⟨sb, pb, mb, hd, H.out.turn (g1.then k1) (by rw [k2, E.out]; rfl) OK.out rfl rfl rfl, hf⟩, One.in (g1.then k1) (hf p (.inl rfl))⟩
set_option maxRecDepth 100000 in
set_option maxHeartbeats 400000 in
theorem spoil_no {w : World} {p : Nat} {D : Dr} {F : Nat → Prop} (h : DriveAt w p D F) (i : Int) (hr : D.reachE i ≠ 0) :
  Calls Tryz.prog 28 #[.pointer (some ⟨p, 0, none⟩), .int .i64 i] w fun e w' => e = .returned (.int .i64 (D.reachE i : Nat)) ∧ w' = w := by
 have hc := reaches_any h i
 have hle := reachE_le D i
 obtain ⟨r, er⟩ : ∃ r, r = D.reachE i := ⟨_, rfl⟩
 rw [← er] at hc hr hle ⊢
 have hne : ((r : Int) == 0) = false := by rw [beq_eq_false_iff_ne]; omega
 clear er
 go_enter Tryz.func28, Tryz.ntmps28
 go_wp2_with fail
 refine hc.mono ?_
 rintro e w' ⟨rfl, rfl⟩
 go_wp2
 go_ret
 exact ⟨rfl, rfl⟩
theorem DrvIn.mark {w : World} {p sb pb mb : Nat} {hd : Nat → Value} {D : Dr} (h : DrvIn w p sb pb mb hd D) (i : Nat) (b : Bool) : DrvIn (w.setCell ⟨pb, i, none⟩ (.bool b)) p sb pb mb hd { D with spoilt := D.spoilt.set i b } := by
 have ho := h.others
 obtain ⟨c1, hs, hs2⟩ := h.safe
 obtain ⟨c2, hp, hp2⟩ := h.spoilt
 obtain ⟨M, hM⟩ := h.map
 have lt := h.lt
 have hg : Only (One pb) w (w.setCell ⟨pb, i, none⟩ (.bool b)) := Only.setCell _ w ⟨pb, i, none⟩ _ rfl
 refine ⟨⟨h.ok.pos, h.ok.le, by show (D.spoilt.set i b).length = _; rw [List.length_set]; exact h.ok.spoilt, h.ok.sector, h.ok.writes, h.ok.out, h.ok.left⟩, (hg.block p (lt p (.inl rfl)) (fun e => ho.p_pb e)).trans h.self, ⟨c1, (hg.block sb (lt sb (.inr (.inl rfl))) (fun e => ho.sb_pb e)).trans hs, hs2⟩, ⟨_, heap_setCell_same w pb i c2 _ _ hp, ?_⟩, ⟨M, ?_⟩, ?_, h.nil, h.off, h.apart⟩
 ·rw [Array.toList_setIfInBounds, hp2]
  simp
 ·have h1 := hM.only hg (fun e => ho.pb_mb e.symm)
  exact ⟨h1.owns, h1.at_, h1.has, h1.keys⟩
 ·intro j
  exact ownsRow_only hg (h.rows j) (fun k hk e => ho.r_pb j (by rw [hk]; exact congrArg some e))
theorem DrvIn.markAt {w : World} {p sb pb mb : Nat} {hd : Nat → Value} {D : Dr} (h : DrvIn w p sb pb mb hd D) {i : Nat} (hi : i < D.safe.length) : w.cell? ⟨pb, i, none⟩ = some (.bool (D.spoilt.getD i false)) ∧ w.frozen? ⟨pb, i, none⟩ = false := by
 obtain ⟨c2, hp, hp2⟩ := h.spoilt
 have hl := h.ok.spoilt
 rw [cell_of_row w pb i _ _ _ hp, frozen_of_row w pb i _ _ hp]
 refine ⟨?_, rfl⟩
 rw [← Array.getElem?_toList, hp2, List.getElem?_map, List.getElem?_eq_getElem (by omega), List.getD_eq_getElem?_getD, List.getElem?_eq_getElem (by omega)]
 rfl
theorem reachE_yes {D : Dr} (hr : D.runsE = 0) {i : Nat} (hi : i < D.safe.length) : D.reachE i = 0 := by
 unfold Dr.reachE Dr.hasB; rw [if_pos hr]; simp [hi]
set_option maxRecDepth 100000 in
set_option maxHeartbeats 400000 in
theorem spoil_yes {w : World} {p : Nat} {D : Dr} {F : Nat → Prop} (h : DriveAt w p D F) (i : Nat) (hr : D.runsE = 0) (hi : i < D.safe.length) :
  Calls Tryz.prog 28 #[.pointer (some ⟨p, 0, none⟩), .int .i64 (i : Nat)] w fun e w' => e = .returned (.int .i64 0) ∧ DriveAt w' p (D.spoil i) F ∧ Only F w w' := by
 have hc := reaches_any h i
 rw [reachE_yes hr hi] at hc
 obtain ⟨sb, pb, mb, hd, hin, hf⟩ := h
 have c1 := hin.cells.c1
 obtain ⟨cs, fs⟩ := hin.markAt hi
 have hle := hin.ok.le
 have H : Hid (DrvIn w p sb pb mb hd D) := hin
 obtain ⟨n, hn⟩ : ∃ n, n = D.safe.length := ⟨_, rfl⟩
 rw [← hn] at c1 hle hi
 obtain ⟨b0, hb0⟩ : ∃ b0, b0 = D.spoilt.getD i false := ⟨_, rfl⟩
 rw [← hb0] at cs
 clear hin hr hn hb0
 go_enter Tryz.func28, Tryz.ntmps28
 go_wp2_with fail
 refine hc.mono ?_
 rintro e w' ⟨rfl, rfl⟩
 go_wp2
 go_ret
 exact ⟨rfl, ⟨sb, pb, mb, hd, H.out.mark i true, hf⟩, (Only.setCell (One pb) w' ⟨pb, i, none⟩ _ rfl).mono fun k hk => by rw [hk]; exact hf pb (.inr (.inr (.inl rfl)))⟩
end Go.Proofs.YtdgkhjgnjfgnlaaGreat
