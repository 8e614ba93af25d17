import Derived.Test.YtdgkhjgnjfgnlaaGreatMKitB
import Derived.Test.YtdgkhjgnjfgnlaaGreatMKitA
import Derived.SliceStrings
import Derived.ProofKit
import Derived.OpenShut
import Derived.ShutString
import Derived.Deep.LoopGhost
namespace Go.Proofs.YtdgkhjgnjfgnlaaGreat
open Go.RowKit
theorem many_growL {w w1 w' : World} {B m : Nat} {T : Nat → Thing} (h : Many w B m T) {i : Nat} (hi : i < m) {t : TypeId} {v : Value} {l l' : List Value} {g cap n : Nat} (e : T i = rowT t v l) (hn : n = l'.length) (hb : Below w.heap.size w w1)
  (ho : w'.ownsRow 0 t 1 (.slice (some ⟨g, 0, none⟩) n cap) n l') (hg : w1.grownBy w' v.ownBlock) (hl : v.ownBlock = some g ∨ g = w1.heap.size) :
  Many w' B m (swap1 T i (rowT t (.slice (some ⟨g, 0, none⟩) n cap) l')) ∧ Below B w w' := by
 subst hn
 have hB := h.size
 obtain ⟨F, h1, h2, h3, h4⟩ := h
 have hF := h1 i hi
 rw [e] at hF
 have a : (rowT t (.slice (some ⟨g, 0, none⟩) l'.length cap) l').is w' (Plus (F i) w.heap.size) := ⟨ho, fun k hk => by
  cases hk
  rcases hl with hl | hl
  ·exact .inl (hF.2 g hl)
  ·exact .inr (by rw [hl]; exact hb.size)⟩
 have o : Only (F i) w w' := (Only.of_below hb (F i)).then (Only.of_grown hg (F i) (fun k hk => hF.2 k hk))
 obtain ⟨hm, hO⟩ := Many.turned hi h1 h2 h3 h4 a o
 exact ⟨hm, hO.below (fun _ hk => hk.1) hB⟩
theorem many_own {w : World} {B m : Nat} {T : Nat → Thing} (h : Many w B m T) {i : Nat} (hi : i < m) {t : TypeId} {v : Value} {l : List Value} {n : Nat} (e : T i = rowT t v l) (hn : n = l.length) : w.ownsRow 0 t 1 v n l := by
 obtain ⟨F, hF, _⟩ := h.look hi
 rw [e] at hF
 rw [hn]
 exact hF.1
theorem head_of {w : World} {B m : Nat} {T : Nat → Thing} (h : Many w B m T) {i : Nat} (hi : i < m) {t : TypeId} {v : Value} {l : List Value} {n : Nat} (e : T i = rowT t v l) (hn : l.length = n) : ∃ a cap, v = .slice a n cap := by
 obtain ⟨F, hF, _⟩ := h.look hi
 rw [e] at hF
 obtain ⟨a, cap, h⟩ := rowT_head hF
 exact ⟨a, cap, by rw [h, hn]⟩
end Go.Proofs.YtdgkhjgnjfgnlaaGreat
namespace Go.Proofs.YtdgkhjgnjfgnlaaGreat
open Go.RowKit Go.ChangeShapes Go.WideShapes
structure Act16 where
 kind : Int
 row : Int
 off : Int
 role : Int
 col : Nat
 s : ByteArray
def Act16.zero : Act16 := ⟨0, 0, 0, 0, 0, ByteArray.empty⟩
structure ActAt16 (w : World) (b o : Nat) (x : Act16) : Prop where
 c0 : w.cell? ⟨b, o, none⟩ = some (.int .i64 x.kind)
 c1 : w.cell? ⟨b, o + 1, none⟩ = some (.int .i64 x.row)
 c2 : w.cell? ⟨b, o + 2, none⟩ = some (.int .i64 x.off)
 c3 : w.cell? ⟨b, o + 3, none⟩ = some (.int .i64 x.role)
 c4 : w.cell? ⟨b, o + 4, none⟩ = some (.int .u8 (x.col : Int))
 c5 : w.cell? ⟨b, o + 5, none⟩ = some (.string x.s)
 kind : (Lit.int .i64 x.kind).wf = true
 row : (Lit.int .i64 x.row).wf = true
 off : (Lit.int .i64 x.off).wf = true
 role : (Lit.int .i64 x.role).wf = true
 col : x.col < 256
 s : x.s.size ≤ maxLen
section
variable {H : Type} {enc : TypeId × Value → H} {w : World} {base : Nat} {spare : Nat → Bool} {held : Bool}
theorem acts16_type : ∃ f0 f1 f2 f3 f4 f5 : Field, Tryz.prog.underlying 38 = some (.struct #[f0, f1, f2, f3, f4, f5]) ∧ (f0.type = 3 ∧ f0.offset = 0) ∧ (f1.type = 3 ∧ f1.offset = 1) ∧ (f2.type = 3 ∧ f2.offset = 2) ∧ (f3.type = 3 ∧ f3.offset = 3) ∧ (f4.type = 5 ∧ f4.offset = 4) ∧ (f5.type = 9 ∧ f5.offset = 5) :=
 ⟨_, _, _, _, _, _, Tryz.underlying38, ⟨rfl, rfl⟩, ⟨rfl, rfl⟩, ⟨rfl, rfl⟩, ⟨rfl, rfl⟩, ⟨rfl, rfl⟩, ⟨rfl, rfl⟩⟩
theorem acts16_cells : Tryz.prog.cellsOf 3 = 1 ∧ Tryz.prog.cellsOf 5 = 1 ∧ Tryz.prog.cellsOf 9 = 1 ∧ Tryz.prog.cellsOf 38 = 6 := by
 refine ⟨?_, ?_, ?_, ?_⟩ <;> kernel_rfl
theorem list6_16 {α : Type} {l : List α} (h : l.length = 6) : ∃ a b c d e f, l = [a, b, c, d, e, f] := by
 match l, h with
 | [a, b, c, d, e, f], _ => exact ⟨a, b, c, d, e, f, rfl⟩
theorem open_act16 {fuel : Nat} {cs : List Value} {y : DataW H × List MemPlace} (h : DataW.trod enc Tryz.prog w base (fun _ => true) held fuel 38 cs = some y) :
  ∃ x : Act16, cs = [.int .i64 x.kind, .int .i64 x.row, .int .i64 x.off, .int .i64 x.role, .int .u8 (x.col : Int), .string x.s] ∧ (Lit.int .i64 x.kind).wf = true ∧ (Lit.int .i64 x.row).wf = true ∧ (Lit.int .i64 x.off).wf = true ∧ (Lit.int .i64 x.role).wf = true ∧ x.col < 256 ∧ x.s.size ≤ maxLen := by
 obtain ⟨f0, f1, f2, f3, f4, f5, ht, ⟨t0, o0⟩, ⟨t1, o1⟩, ⟨t2, o2⟩, ⟨t3, o3⟩, ⟨t4, o4⟩, ⟨t5, o5⟩⟩ := acts16_type
 obtain ⟨e0, e1, e2, e3⟩ := acts16_cells
 obtain ⟨xs, n, _, rfl, hl, hlen, hf⟩ := DataW.trod_struct ht h
 obtain ⟨v0, v1, v2, v3, v4, v5, rfl⟩ := list6_16 (hl.trans e3)
 obtain ⟨y0, y1, y2, y3, y4, y5, rfl⟩ := list6_16 hlen
 have h0 := hf 0 f0 rfl
 have h1 := hf 1 f1 rfl
 have h2 := hf 2 f2 rfl
 have h3 := hf 3 f3 rfl
 have h4 := hf 4 f4 rfl
 have h5 := hf 5 f5 rfl
 rw [t0, o0, e0] at h0
 rw [t1, o1, e0] at h1
 rw [t2, o2, e0] at h2
 rw [t3, o3, e0] at h3
 rw [t4, o4, e1] at h4
 rw [t5, o5, e2] at h5
 simp only [List.drop_succ_cons, List.drop_zero, List.take_succ_cons, List.take_zero, List.getElem?_cons_zero, List.getElem?_cons_succ] at h0 h1 h2 h3 h4 h5
 obtain ⟨kind, q0, _, w0⟩ := DataW.trod_int Tryz.underlying3 h0
 obtain ⟨row, q1, _, w1⟩ := DataW.trod_int Tryz.underlying3 h1
 obtain ⟨off, q2, _, w2⟩ := DataW.trod_int Tryz.underlying3 h2
 obtain ⟨role, q3, _, w3⟩ := DataW.trod_int Tryz.underlying3 h3
 obtain ⟨col, q4, _, w4⟩ := DataW.trod_int Tryz.underlying5 h4
 obtain ⟨s, q5, _, w5⟩ := DataW.trod_string Tryz.underlying9 h5
 cases q0; cases q1; cases q2; cases q3; cases q4; cases q5
 have hi := bounds_u8 w4
 obtain ⟨col, rfl⟩ := Int.eq_ofNat_of_zero_le hi.1
 exact ⟨⟨kind, row, off, role, col, s⟩, rfl, w0, w1, w2, w3, by have := hi.2; show col < 256; omega, w5⟩
theorem open_acts16 {fuel : Nat} {cs : List Value} {x : DataW H × List MemPlace} (h : DataW.trod enc Tryz.prog w base (fun _ => true) held fuel 22 cs = some x) :
  ∃ (a : Option Addr) (len cap : Nat) (f : Nat → Act16), cs = [.slice a len cap] ∧ len ≤ maxLen ∧ (0 < len → ∃ b off, a = some ⟨b, off, none⟩ ∧ ∀ j, j < len → ActAt16 w b (off + j * 6) (f j)) := by
 rcases DataW.trod_slice Tryz.underlying22 h with ⟨rfl, _⟩ | ⟨⟨b, off, spot⟩, len, cap, elems, rest, n, _, rfl, _, _, hl, hm, hlen, hel, _⟩
 ·exact ⟨none, 0, 0, fun _ => Act16.zero, rfl, Nat.zero_le _, fun h => absurd h (Nat.lt_irrefl _)⟩
 obtain ⟨_, _, _, e4⟩ := acts16_cells
 rw [e4] at hel
 by_cases hpos : 0 < len
 case neg => exact ⟨_, len, cap, fun _ => Act16.zero, rfl, by omega, fun h => absurd h hpos⟩
 have hsp : spot = none := by
  have h1 := hel 0 hpos
  rw [List.getElem?_eq_getElem (by omega), Option.bind_eq_some_iff] at h1
  obtain ⟨cs, hcs, hy⟩ := h1
  obtain ⟨_, rfl, _⟩ := open_act16 hy
  have h0 := World.cell?_spot ((World.cells?_some hcs).2.2 0 (by omega))
  simpa [Addr.add] using h0
 subst hsp
 have each : ∀ j, j < len → ∃ r : Act16, ActAt16 w b (off + j * 6) r := by
  intro j hj
  have h1 := hel j hj
  rw [List.getElem?_eq_getElem (by omega), Option.bind_eq_some_iff] at h1
  obtain ⟨cs, hcs, hy⟩ := h1
  obtain ⟨x, rfl, k1, k2, k3, k4, k5, k6⟩ := open_act16 hy
  have hc := (World.cells?_some hcs).2.2
  have hadd : ∀ q, ((⟨b, off, none⟩ : Addr).add (j * 6)).add q = ⟨b, off + j * 6 + q, none⟩ := fun q => by
   unfold Addr.add
   split <;> split <;> simp_all
  exact ⟨x, ⟨by have := hc 0 (by omega); rw [hadd] at this; exact this, by have := hc 1 (by omega); rw [hadd] at this; exact this, by have := hc 2 (by omega); rw [hadd] at this; exact this, by have := hc 3 (by omega); rw [hadd] at this; exact this, by have := hc 4 (by omega); rw [hadd] at this; exact this, by have := hc 5 (by omega); rw [hadd] at this; exact this, k1, k2, k3, k4, k5, k6⟩⟩
 refine ⟨some ⟨b, off, none⟩, len, cap, fun j => if hj : j < len then (each j hj).choose else Act16.zero, rfl, by omega, fun h0 => ⟨b, off, rfl, fun j hj => ?_⟩⟩
 show ActAt16 w b (off + j * 6) (if hj : j < len then (each j hj).choose else Act16.zero)
 rw [dif_pos hj]
 exact (each j hj).choose_spec
end
def Light16 (n : Nat) (f : Nat → Act16) : Prop := n ≤ 80 ∧ ∀ j, j < n → (f j).s.size ≤ 100
set_option maxRecDepth 100000 in
set_option maxHeartbeats 1000000 in
theorem heavy16_nil (w : World) (a : Option Addr) (cap : Nat) : Calls Tryz.prog 7 #[.slice a 0 cap] w fun e w' => w' = w ∧ e = .returned (.bool false) := by
 go_enter Tryz.func7, Tryz.ntmps7
 go_wp2
 go_loopg [3] 0 (fun gg i wr => gg = 0 ∧ i = .int .i64 0 ∧ wr = w)
 case atStart => exact ⟨rfl, rfl, rfl⟩
 case round =>
  obtain ⟨rfl, rfl, rfl⟩ := hrel
  go_wp2
  go_ret
  exact ⟨rfl, rfl⟩
set_option maxRecDepth 100000 in
set_option maxHeartbeats 1000000 in
theorem heavy16_some (w : World) (b off : Nat) (n cap : Nat) (f : Nat → Act16) (hA : ∀ j, j < n → ActAt16 w b (off + j * 6) (f j)) (hn : n ≤ maxLen) :
  Calls Tryz.prog 7 #[.slice (some ⟨b, off, none⟩) n cap] w fun e w' => w' = w ∧ (e = .returned (.bool true) ∨ e = .returned (.bool false) ∧ Light16 n f) := by
 unfold maxLen at hn
 by_cases h80 : (80 : Int) < (n : Int)
 ·go_enter Tryz.func7, Tryz.ntmps7
  go_wp2
  go_ret
  exact ⟨rfl, .inl rfl⟩
 ·have hn2 : n ≤ 80 := by omega
  have HA : Hid (∀ j, j < n → ActAt16 w b (off + j * 6) (f j)) := hA
  clear hA
  go_enter Tryz.func7, Tryz.ntmps7
  go_wp2
  go_loopg [3] n (fun gg i wr => ∃ k : Nat, k ≤ n ∧ gg = n - k ∧ i = .int .i64 k ∧ wr = w ∧ ∀ j, j < k → (f j).s.size ≤ 100)
  case atStart => exact ⟨0, Nat.zero_le _, rfl, rfl, rfl, fun j hj => absurd hj (Nat.not_lt_zero _)⟩
  case round =>
   obtain ⟨k, hk, rfl, rfl, rfl, hl⟩ := hrel
   have HL : Hid (∀ j, j < k → (f j).s.size ≤ 100) := hl
   clear hl
   by_cases hlt : k < n
   ·have c5 := (HA.out k hlt).c5
    have hs := (HA.out k hlt).s
    obtain ⟨st, hz⟩ : ∃ st, st = (f k).s := ⟨_, rfl⟩
    rw [← hz] at c5 hs
    have HZ : Hid (st = (f k).s) := hz
    unfold maxLen at hs
    clear hz
    by_cases h1 : (100 : Int) < (st.size : Int)
    ·go_wp2
     go_ret
     exact ⟨rfl, .inl rfl⟩
    ·go_wp2
     go_roundg (n - (k + 1))
     case measure => omega
     case rel => exact ⟨k + 1, by omega, rfl, by go_num, rfl, fun j hj => by
      by_cases e : j = k
      ·subst e; rw [← HZ.out]; omega
      ·exact HL.out j (by omega)⟩
   ·have hkn : k = n := by omega
    subst hkn
    go_wp2
    go_ret
    exact ⟨rfl, .inr ⟨rfl, hn2, HL.out⟩⟩
end Go.Proofs.YtdgkhjgnjfgnlaaGreat
