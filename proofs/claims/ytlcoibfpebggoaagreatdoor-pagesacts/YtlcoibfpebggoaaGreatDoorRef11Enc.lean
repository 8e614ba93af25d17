/- The walk of the document's own Encode of a page. -/
import Derived.Test.YtlcoibfpebggoaaGreatDoorMRefC
import Derived.Test.YtlcoibfpebggoaaGreatDoorRef02Open
import Derived.Test.YtlcoibfpebggoaaGreatDoorPgDr
namespace Go.Proofs.YtlcoibfpebggoaaGreatDoor
open Go.RowKit

theorem pg_cells {w w1 : World} {t : TypeId} {ev : Int} {bits : ByteArray} (h : Below (w.alloc (.cells #[.int .u64 ev, .string bits] t)).heap.size (w.alloc (.cells #[.int .u64 ev, .string bits] t)) w1) :
    w1.cell? ⟨w.heap.size, 0, none⟩ = some (.int .u64 ev) ∧ w1.cell? ⟨w.heap.size, 1, none⟩ = some (.string bits) :=
  ⟨(h.cell (p := ⟨w.heap.size, 0, none⟩) (by simp)).trans (World.cell?_alloc_mark w _ t (0, 0) 0), (h.cell (p := ⟨w.heap.size, 1, none⟩) (by simp)).trans (World.cell?_alloc_mark w _ t (0, 0) 1)⟩
theorem pg_free {w w1 : World} {t : TypeId} {ev : Int} {bits : ByteArray} (h : Below (w.alloc (.cells #[.int .u64 ev, .string bits] t)).heap.size (w.alloc (.cells #[.int .u64 ev, .string bits] t)) w1) (j : Nat) : w1.frozen? ⟨w.heap.size, j, none⟩ = false :=
  (h.frozen (p := ⟨w.heap.size, j, none⟩) (by simp)).trans (by rw [World.frozen?_alloc_mark]; simp)
theorem pg_stored {w w1 : World} {n k : Nat} (h : Below n w w1) (hn : n ≤ k) (h1 : n ≤ w1.heap.size) (a b : Value) : Below n w ((w1.setCell ⟨k, 0, none⟩ a).setCell ⟨k, 1, none⟩ b) :=
  h.trans (((Only.setCell (fun x => x = k) w1 ⟨k, 0, none⟩ a rfl).then (Only.setCell (fun x => x = k) _ ⟨k, 1, none⟩ b rfl)).below (fun x hx => by rw [hx]; exact hn) h1)

set_option maxRecDepth 100000 in
set_option maxHeartbeats 1000000 in
theorem rEncode11_no (ev : Nat) (bits : ByteArray) (h : bits.size ≠ 8) (w : World) :
    Calls Tryz.prog 9 #[.agg #[.int .u64 (ev : Int), .string bits]] w fun e w' => e = .returned (.tuple #[.string ⟨#[]⟩, .int .i64 1]) ∧ Below w.heap.size w w' := by
  have hn : ((bits.size : Int) == 8) = false := by rw [beq_eq_false_iff_ne]; omega
  have hn2 : ((bits.size : Int) != 8) = true := by rw [bne_iff_ne]; omega
  go_enter Tryz.func9, Tryz.ntmps9
  go_wp2
  go_ret2
  exact ⟨rfl, (Below.refl _ w).alloc (Nat.le_refl _) _⟩

theorem enc8_any (ev : Nat) (hev : ev < 18446744073709551616) (a b : Option Addr) (ca cb : Nat) (w : World) (ha : RowI .u64 w a 1 (fun j => (([ev].getD j 0 : Nat) : Int))) (hb : RowI .i64 w b 1 (fun j => [8].getD j 0)) :
    Calls Tryz.prog 31 #[.slice a 1 ca, .slice b 1 cb] w fun e w' => e = .returned (.tuple #[.string (Pk.encS [ev] [8]), .int .i64 0]) ∧ Below w.heap.size w w' := by
  have h := refEncode_any [ev] [8] (by show 1 ≤ maxLen; decide) (by show 1 ≤ maxLen; decide) (by intro j; match j with | 0 => exact hev | j + 1 => exact Nat.lt_of_le_of_lt (Nat.zero_le ev) hev) a b ca cb w ha hb
  rw [Pg.enc8_E hev] at h
  exact h
theorem row1N (w : World) (n : Nat) (t : TypeId) : RowI .u64 (w.alloc (.cells #[.int .u64 (n : Int)] t)) (some ⟨w.heap.size, 0, none⟩) 1 (fun j => (([n].getD j 0 : Nat) : Int)) := RowI.newN .u64 w [n] _ t rfl
theorem row1I (w : World) (n : Int) (t : TypeId) : RowI .i64 (w.alloc (.cells #[.int .i64 n] t)) (some ⟨w.heap.size, 0, none⟩) 1 (fun j => [n].getD j 0) := RowI.new .i64 w [n] _ t rfl

/-- the two rows that Encode hands on: a page's number, and its width -/
theorem rows8 (w : World) (ev : Nat) (P : Obj) (t u : TypeId) : RowI .u64 (((w.alloc P).alloc (.cells #[.int .u64 (ev : Int)] t)).alloc (.cells #[.int .i64 8] u)) (some ⟨w.heap.size + 1, 0, none⟩) 1 (fun j => (([ev].getD j 0 : Nat) : Int)) ∧
    RowI .i64 (((w.alloc P).alloc (.cells #[.int .u64 (ev : Int)] t)).alloc (.cells #[.int .i64 8] u)) (some ⟨w.heap.size + 1 + 1, 0, none⟩) 1 (fun j => [8].getD j 0) := by
  have h1 := (row1N (w.alloc P) ev t).below ((Below.refl _ _).alloc (Nat.le_refl _) (.cells #[.int .i64 8] u))
  have h2 := row1I ((w.alloc P).alloc (.cells #[.int .u64 (ev : Int)] t)) 8 u
  rw [World.size_alloc] at h1
  rw [World.size_alloc, World.size_alloc] at h2
  exact ⟨h1, h2⟩

set_option maxRecDepth 100000 in
set_option maxHeartbeats 1000000 in
theorem rEncode11_yes (ev : Nat) (hev : ev < 18446744073709551616) (bits : ByteArray) (h : bits.size = 8) (w : World) :
    Calls Tryz.prog 9 #[.agg #[.int .u64 (ev : Int), .string bits]] w fun e w' => e = .returned (.tuple #[.string (Pg.secT ⟨ev, bits⟩), .int .i64 0]) ∧ Below w.heap.size w w' := by
  have hn : ((bits.size : Int) == 8) = true := by rw [h]; rfl
  have hn2 : ((bits.size : Int) != 8) = false := by rw [h]; rfl
  have hq := Pg.enc8_size hev
  have hP := enc8_any ev hev
  obtain ⟨q, eq⟩ : ∃ q, q = Pk.encS [ev] [8] := ⟨_, rfl⟩
  rw [← eq] at hq hP
  have HS : Hid (Pg.secT ⟨ev, bits⟩ = Crc.sealB (Pg.magicB ++ q ++ bits) 64) := by show _ = _; unfold Pg.secT Pg.bodyB; rw [eq]
  have HZ : Hid ((Pg.magicB ++ q ++ bits).size ≤ 60) := by show _ ≤ _; rw [ByteArray.size_append, ByteArray.size_append, hq, h]; decide
  have HEQ : Hid (q = Pk.encS [ev] [8]) := eq
  have HV : Hid (ev < 18446744073709551616) := hev
  have HP : Hid _ := hP
  have hq8 : q.size ≤ 8 := by omega
  have hb8 : bits.size ≤ 8 := by omega
  clear eq h hev hq hP
  go_enter Tryz.func9, Tryz.ntmps9
  go_wp2_with fail
  refine (HP.out _ _ _ _ _ (rows8 w ev _ _ _).1 (rows8 w ev _ _ _).2).mono ?_
  rintro e w1 ⟨rfl, hb1⟩
  have hb : Below (w.alloc (.cells #[.int .u64 (ev : Int), .string bits] 30)).heap.size (w.alloc (.cells #[.int .u64 (ev : Int), .string bits] 30)) w1 :=
    ((((Below.refl _ _).alloc (Nat.le_refl _) _).alloc (by simp) _).trans (hb1.mono (by simp)))
  obtain ⟨_, c1⟩ := pg_cells hb
  have HB : Hid (Below w.heap.size w w1) := ((Below.refl _ w).alloc (Nat.le_refl _) _).trans (hb.mono (by simp))
  clear hb hb1
  go_wp2_with fail
  refine (refSeal_yes _ 64 (by decide) (by decide) HZ.out _).mono ?_
  rw [show (({ data := #[82, 86, 84, 66] } : ByteArray) ++ q ++ bits) = Pg.magicB ++ q ++ bits from rfl, ← HS.out]
  rintro e w2 ⟨rfl, hb2⟩
  have HB2 : Hid (Below w.heap.size w w2) := HB.out.trans (hb2.mono HB.out.size)
  clear hb2
  go_wp2
  go_ret2
  exact ⟨rfl, HB2.out⟩
/-- the document's own Encode of any page -/
theorem rEncode11_any (p : Pge) (hev : p.ev < 18446744073709551616) (w : World) :
    Calls Tryz.prog 9 #[pgV p] w fun e w' => e = .returned (.tuple #[.string (Pg.encT p), .int .i64 (Pg.encE p : Nat)]) ∧ Below w.heap.size w w' := by
  obtain ⟨ev, bits⟩ := p
  by_cases h : bits.size = 8
  · have e1 : Pg.encT ⟨ev, bits⟩ = Pg.secT ⟨ev, bits⟩ := if_pos h
    have e2 : Pg.encE ⟨ev, bits⟩ = 0 := if_pos h
    rw [e1, e2]
    exact rEncode11_yes ev hev bits h w
  · have e1 : Pg.encT ⟨ev, bits⟩ = ⟨#[]⟩ := if_neg h
    have e2 : Pg.encE ⟨ev, bits⟩ = 1 := if_neg h
    rw [e1, e2]
    exact rEncode11_no ev bits h w
end Go.Proofs.YtlcoibfpebggoaaGreatDoor
