/- Several texts in one. The walks of the program's own sectors, total, loaded, code, place and put. The walk of the program's own Encode of a record. -/
import Derived.Test.YtjmeiifogblmoaaGreatDoorMRkA
import Derived.Test.YtjmeiifogblmoaaGreatDoorKitTexts
import Derived.Test.YtjmeiifogblmoaaGreatDoorMRecB
import Derived.Test.YtjmeiifogblmoaaGreatDoorMCrcA
import Derived.Test.YtjmeiifogblmoaaGreatDoorMPackA
import Derived.OwnWalk
import Derived.Test.YtjmeiifogblmoaaGreatDoorRecSays
namespace Go.Proofs.YtjmeiifogblmoaaGreatDoor
open Go.RowKit

namespace Rc
/-- texts without places -/
def bareF (g : Nat → ByteArray) (j : Nat) : Prt := ⟨0, 0, g j⟩
end Rc
set_option maxRecDepth 100000 in
set_option maxHeartbeats 2000000 in
theorem sectors12_some (b off n cap : Nat) (g : Nat → ByteArray) (w : World) (hn : n ≤ 60) (hp : RowS w (some ⟨b, off, none⟩) n g) :
    Calls Tryz.prog 129 #[.slice (some ⟨b, off, none⟩) n cap] w fun e w' => e = .returned (.bool (Rc.fullTo (Rc.bareF g) n)) ∧ w' = w := by
  have HP : Hid (∀ j, j < n → w.cell? ⟨b, off + j, none⟩ = some (.string (g j))) := fun j hj => hp.at hj
  clear hp
  go_enter Tryz.func129, Tryz.ntmps129
  go_wp2
  go_loopg [4, 7] n (fun gg s i wr => ∃ k : Nat, k ≤ n ∧ gg = n - k ∧ i = .int .i64 (k : Int) ∧ wr = w ∧ Rc.fullTo (Rc.bareF g) k = true)
  case atStart => exact ⟨0, Nat.zero_le _, rfl, rfl, rfl, rfl⟩
  case round =>
  obtain ⟨k, hk, rfl, rfl, rfl, hfu⟩ := hrel
  have HF : Hid (Rc.fullTo (Rc.bareF g) k = true) := hfu
  clear hfu
  by_cases hlt : k < n
  case neg =>
    have hkn : k = n := by omega
    subst hkn
    clear hlt hk
    go_wp2
    go_ret
    exact ⟨by rw [HF.out]; rfl, rfl⟩
  case pos =>
  have hki : (k : Int) < (n : Int) := by omega
  have c0 := HP.out k hlt
  obtain ⟨s, hs⟩ : ∃ s, s = g k := ⟨_, rfl⟩
  rw [← hs] at c0
  have HS : Hid (s = g k) := hs
  clear hs
  by_cases h64 : s.size = 64
  · have hne : ((s.size : Int) != 64) = false := by rw [bne_eq_false_iff_eq]; omega
    have HN : Hid (Rc.fullTo (Rc.bareF g) (k + 1) = true) := by
      show _ = _
      unfold Rc.fullTo
      rw [HF.out, Bool.true_and, decide_eq_true_iff]; show (g k).size = 64; rw [← HS.out]; exact h64
    clear h64
    go_wp2
    go_roundg (n - (k + 1))
    case measure => omega
    case rel => exact ⟨k + 1, by omega, rfl, by go_num, rfl, HN.out⟩
  · have hne : ((s.size : Int) != 64) = true := by rw [bne_iff_ne]; omega
    have HNo : Hid (Rc.fullTo (Rc.bareF g) n = false) := Rc.fullTo_not hlt (by show (g k).size ≠ 64; rw [← HS.out]; exact h64)
    clear h64
    go_wp2
    go_ret
    exact ⟨by rw [HNo.out]; rfl, rfl⟩

theorem flat_len (f : Nat → Prt) (n : Nat) (h : ∀ j, j < n → (f j).data.size ≤ 100) : (Rc.catTo f n).size ≤ 100 * n := by
  induction n with
  | zero => exact Nat.le_refl _
  | succ n ih =>
    unfold Rc.catTo
    rw [ByteArray.size_append]
    have := ih (fun j hj => h j (by omega))
    have := h n (by omega)
    omega
theorem join_flat (xs : List (List UInt8)) : Lib.join xs [] = xs.flatten := by
  cases xs with
  | nil => rfl
  | cons x r =>
    rw [Lib.join_cons]
    unfold Lib.joinTail
    simp
set_option maxRecDepth 100000 in
set_option maxHeartbeats 1000000 in
theorem total12_some (b off n cap : Nat) (f : Nat → Prt) (w : World) (n1 : 1 ≤ n) (hn : n ≤ 60) (hc : n ≤ cap) (hd : ∀ j, j < n → (f j).data.size ≤ 100) (hp : RowS w (some ⟨b, off, none⟩) n (fun j => (f j).data)) :
    Calls Tryz.prog 72 #[.slice (some ⟨b, off, none⟩) n cap] w fun e w' => e = .returned (.int .u32 (Rc.sumF n f : Nat)) ∧ Below w.heap.size w w' := by
  obtain ⟨xs, hxs⟩ : ∃ xs, xs = (List.range n).map fun j => (f j).data := ⟨_, rfl⟩
  have hxl : xs.length = n := by rw [hxs]; simp
  have hfl : Lib.join (xs.map (·.data.toList)) (⟨#[]⟩ : ByteArray).data.toList = (Rc.catTo f n).data.toList := by
    rw [Rc.catTo_flat, ← hxs]
    exact join_flat _
  have hsz := flat_len f n hd
  have hJ := Tryz.strings_Join b off cap xs ⟨#[]⟩ w (fun j x hx => by
    rw [hxs] at hx
    have hj : j < n := by
      have := (List.getElem?_eq_some_iff.1 hx).1
      simpa using this
    simp [hj] at hx
    rw [← hx]
    exact hp.at hj) (World.block_lt_of_cell? w _ (hp.at (by omega : 0 < n))) (by omega) (by omega) (by
    rw [hfl, Pg.list_size]; omega)
  rw [hxl, hfl] at hJ
  have hmk : (⟨(Rc.catTo f n).data.toList.toArray⟩ : ByteArray) = Rc.catTo f n := Pg.eq_of_list (by simp)
  rw [hmk] at hJ
  have hS := fun W => Sum_any (Rc.catTo f n) (by unfold maxLen; omega) W
  have e : Crc.more 0 (Rc.catTo f n).data.toList = Rc.sumF n f := rfl
  rw [e] at hS
  generalize Rc.catTo f n = t at hJ hS
  generalize Rc.sumF n f = s at hS ⊢
  clear hp hd hxs hxl hfl hsz hmk e n1 hn hc
  go_enter Tryz.func72, Tryz.ntmps72
  go_wp2_with fail
  refine hJ.mono ?_
  rintro e w1 ⟨rfl, hb1⟩
  have HB1 : Hid (Below w.heap.size w w1) := hb1
  clear hb1 hJ
  go_wp2_with fail
  refine (hS _).mono ?_
  rintro e w2 ⟨rfl, hb2⟩
  have HB2 : Hid (Below w.heap.size w w2) := below2 HB1.out hb2
  clear hb2 hS
  go_wp2
  go_ret
  exact ⟨rfl, HB2.out⟩
theorem total12_any (a : Option Addr) (n cap : Nat) (f : Nat → Prt) (w : World) (n1 : 1 ≤ n) (hn : n ≤ 60) (hc : n ≤ cap) (hd : ∀ j, j < n → (f j).data.size ≤ 100) (hp : RowS w a n (fun j => (f j).data)) :
    Calls Tryz.prog 72 #[.slice a n cap] w fun e w' => e = .returned (.int .u32 (Rc.sumF n f : Nat)) ∧ Below w.heap.size w w' := by
  rcases hp.place with h | ⟨b, off, rfl⟩
  · omega
  · exact total12_some b off n cap f w n1 hn hc hd hp

set_option maxRecDepth 100000 in
set_option maxHeartbeats 1000000 in
theorem code12_any (x : Prt) (h : Rc.inB x = true) (w : World) :
    Calls Tryz.prog 73 #[.agg #[.int .i64 x.col, .int .i64 x.off, .string x.data]] w fun e w' => e = .returned (.int .u8 ((Rc.plB x).toNat : Int)) ∧ Below w.heap.size w w' := by
  obtain ⟨h1, h2, h3, h4⟩ := (Rc.in_iff x).1 h
  obtain ⟨c, o, d⟩ := x
  dsimp only at h1 h2 h3 h4 ⊢
  have HV : Hid (((Rc.plB ⟨c, o, d⟩).toNat : Int) = 4 * c + o) := by
    show _ = _
    unfold Rc.plB
    simp
    omega
  have hw3 : IntKind.u8.wrap (4 * c + o) = 4 * c + o := by rw [IntKind.wrap_u8]; omega
  clear h
  go_enter Tryz.func73, Tryz.ntmps73
  go_wp2
  go_ret
  exact ⟨by rw [HV.out]; rfl, (Below.refl _ w).alloc (Nat.le_refl _) _⟩

set_option maxRecDepth 100000 in
set_option maxHeartbeats 1000000 in
theorem place12_any (c : Nat) (h : c < 256) (w : World) :
    Calls Tryz.prog 147 #[.int .u8 (c : Int)] w fun e w' => e = .returned (.agg #[.int .i64 ((c / 4 : Nat) : Int), .int .i64 ((c % 4 : Nat) : Int), .string ⟨#[]⟩]) ∧ Below w.heap.size w w' := by
  have q1 : IntKind.u8.wrap ((c : Int).tdiv 4) = ((c / 4 : Nat) : Int) := by rw [IntKind.wrap_u8, Int.tdiv_eq_ediv_of_nonneg (by omega)]; omega
  have q2 : IntKind.u8.wrap ((c : Int).tmod 4) = ((c % 4 : Nat) : Int) := by rw [IntKind.wrap_u8, Int.tmod_eq_emod_of_nonneg (by omega)]; omega
  go_enter Tryz.func147, Tryz.ntmps147
  go_wp2
  refine bodyPost_ret (ret_cell rfl _ _ ⟨w.heap.size, 0, none⟩ (.agg #[.int .i64 ((c : Int) / 4), .int .i64 ((c : Int) % 4), .string ⟨#[]⟩]) rfl (by go_simp)) rfl ?_
  exact ⟨by rw [Int.natCast_ediv, Int.natCast_emod]; rfl, (Below.refl _ w).alloc (Nat.le_refl _) _⟩

set_option maxRecDepth 100000 in
set_option maxHeartbeats 2000000 in
theorem loaded12_some (b off n cap : Nat) (f : Nat → Prt) (w : World) (hn : n ≤ 60) (hd : ∀ j, j < n → (f j).data.size ≤ 100) (hp : ∀ j, j < n → PartAt w b (off + j * 3) (f j)) :
    Calls Tryz.prog 70 #[.slice (some ⟨b, off, none⟩) n cap] w fun e w' => ∃ v, e = .returned v ∧ w'.ownsRow w.heap.size 9 1 v n (textVals n fun j => (f j).data) ∧ Below w.heap.size w w' := by
  have HP : Hid (∀ j, j < n → PartAt w b (off + j * 3) (f j)) := hp
  have HD : Hid (∀ j, j < n → (f j).data.size ≤ 100) := hd
  obtain ⟨i0, hi, hz0, hz1, hz2⟩ := info_parts info_str
  clear hp hd
  go_enter Tryz.func70, Tryz.ntmps70
  go_wp2
  go_loopg [3, 8] n (fun gg v i wr => ∃ (k : Nat) (u : Value), k ≤ n ∧ gg = n - k ∧ u = v ∧ i = .int .i64 (k : Int) ∧ wr.ownsRow w.heap.size 9 1 u k (textVals k fun j => (f j).data) ∧ Below w.heap.size w wr)
  case atStart => exact ⟨0, _, Nat.zero_le _, rfl, rfl, rfl, ⟨rfl, .inl ⟨rfl, rfl⟩⟩, Below.refl _ _⟩
  case round =>
  obtain ⟨k, u, hk, rfl, rfl, rfl, hown, hb⟩ := hrel
  have HB : Hid (Below w.heap.size w wr) := hb
  have OWN : Hid (wr.ownsRow w.heap.size 9 1 u k (textVals k fun j => (f j).data)) := hown
  have hsz := hb.size
  clear hown
  by_cases hlt : k < n
  case neg =>
    have hkn : k = n := by omega
    subst hkn
    clear hlt hk hb
    go_wp2
    go_ret
    exact ⟨_, rfl, OWN.out, HB.out⟩
  case pos =>
  have hki : (k : Int) < (n : Int) := by omega
  have hpk := (HP.out k hlt).below hb (HP.out k hlt).lt
  have c0 := hpk.c0
  have c1 := hpk.c1
  have c2 := hpk.c2
  have hds := HD.out k hlt
  obtain ⟨x, hx⟩ : ∃ x, x = f k := ⟨_, rfl⟩
  rw [← hx] at c0 c1 c2 hds
  have HX : Hid (x = f k) := hx
  obtain ⟨xc, xo, s⟩ := x
  dsimp only at c0 c1 c2 hds
  have HBX : Hid (Below w.heap.size w (wr.alloc (.cells #[.int .i64 xc, .int .i64 xo, .string s] 83))) := HB.out.alloc hsz _
  have OWNX : Hid ((wr.alloc (.cells #[.int .i64 xc, .int .i64 xo, .string s] 83)).ownsRow w.heap.size 9 1 u k (textVals k fun j => (f j).data)) := OWN.out.alloc _
  clear hpk hx hb
  go_wp2_with fail
  refine (Clone_any s (by omega) _).mono ?_
  rintro e w2 ⟨rfl, hb2⟩
  have HB2 : Hid (Below w.heap.size w w2) := below2 HBX.out hb2
  have OWN2 : Hid (w2.ownsRow w.heap.size 9 1 u k (textVals k fun j => (f j).data)) := ownsRow_below OWNX.out hb2
  have hs2 := HB2.out.size
  clear hb2
  go_wp2_with (at_builtin; refine wpList_append_own _ rfl _ _ 42 rfl w.heap.size 9 i0 (.string ByteArray.empty) 1 16 Tryz.underlying42 hi hz0 hz1 hz2 rfl (by decide) u k (textVals k fun j => (f j).data) rfl (OWN2.out.alloc _) ⟨_, 0, none⟩ 1 1 [.string s] rfl rfl (cell_one_new _ _ _) (by simp [Value.oneCell']) (by unfold maxLen; omega) (by omega) (by simp; omega) ?_; intro v' w3 hown' hgrow _; obtain ⟨g', cap', rfl⟩ := ownsRow_succ hown'; have hb3 := below_append OWN2.out hs2 hgrow; have OWN3 : Hid (w3.ownsRow w.heap.size 9 1 (.slice (some ⟨g', 0, none⟩) (k + 1) cap') (k + 1) (textVals (k + 1) fun j => (f j).data)) := (by rw [← textVals_snoc, ← HX.out]; exact hown'); have HB3 : Hid (Below w.heap.size w w3) := HB2.out.trans hb3; clear hown' hgrow hb3)
  go_roundg (n - (k + 1))
  case measure => omega
  case rel => exact ⟨k + 1, _, by omega, rfl, rfl, by go_num, OWN3.out, HB3.out⟩

theorem widths12 (w : World) : Calls Tryz.prog 107 #[] w fun e w' => e = .returned (.slice (some ⟨w.heap.size, 0, none⟩) 4 4) ∧ RowI .i64 w' (some ⟨w.heap.size, 0, none⟩) 4 (fun j => Rc.ws.getD j 0) ∧ Below w.heap.size w w' := by
  go_enter Tryz.func107, Tryz.ntmps107
  go_wp2
  go_ret
  exact ⟨rfl, RowI.new .i64 w [8, 2, 1, 4] _ _ rfl, (Below.refl _ w).alloc (Nat.le_refl _) _⟩
theorem penc12 {seq rw_ n s : Nat} (h0 : seq < 18446744073709551616) (h1 : rw_ < 65536) (h2 : n < 256) (h3 : s < 4294967296) (a b : Option Addr) (ca cb : Nat) (w : World) (ha : RowI .u64 w a 4 (fun j => (([seq, rw_, n, s].getD j 0 : Nat) : Int))) (hb : RowI .i64 w b 4 (fun j => Rc.ws.getD j 0)) :
    Calls Tryz.prog 84 #[.slice a 4 ca, .slice b 4 cb] w fun e w' => e = .returned (.tuple #[.string (Rc.numsB seq rw_ n s), .int .i64 0]) ∧ Below w.heap.size w w' := by
  have h := Encode_any [seq, rw_, n, s] Rc.ws (by show 4 ≤ maxLen; decide) (by show 4 ≤ maxLen; decide) (by
    intro j
    match j with
    | 0 => exact h0
    | 1 => show rw_ < _; omega
    | 2 => show n < _; omega
    | 3 => show s < _; omega
    | j + 4 => exact Nat.lt_of_le_of_lt (Nat.zero_le seq) h0) a b ca cb w ha hb
  have e := Rc.nums_E (row := (rw_ : Int)) h0 (by omega) h2 h3
  rw [show (rw_ : Int).toNat = rw_ by omega] at e
  rw [e] at h
  have e2 : Rc.numsB seq rw_ n s = Pk.encS [seq, rw_, n, s] Rc.ws := by unfold Rc.numsB; rw [show (rw_ : Int).toNat = rw_ by omega]
  rw [e2]
  exact h
set_option maxRecDepth 100000 in
set_option maxHeartbeats 1000000 in
theorem put12_any {seq rw_ n s : Nat} (h0 : seq < 18446744073709551616) (h1 : rw_ < 65536) (h2 : n < 256) (h3 : s < 4294967296) (a : Option Addr) (ca : Nat) (w : World) (ha : RowI .u64 w a 4 (fun j => (([seq, rw_, n, s].getD j 0 : Nat) : Int))) :
    Calls Tryz.prog 71 #[.slice a 4 ca] w fun e w' => e = .returned (.string (Rc.numsB seq rw_ n s)) ∧ Below w.heap.size w w' := by
  have hE := fun (b : Option Addr) (cb : Nat) (W : World) => penc12 h0 h1 h2 h3 a b ca cb W
  generalize Rc.numsB seq rw_ n s = t at hE ⊢
  clear h0 h1 h2 h3
  go_enter Tryz.func71, Tryz.ntmps71
  go_wp2_with fail
  refine (widths12 _).mono ?_
  rintro e w1 ⟨rfl, hr1, hb1⟩
  have HB1 : Hid (Below w.heap.size w w1) := hb1
  have HA1 : Hid (RowI .u64 w1 a 4 (fun j => (([seq, rw_, n, s].getD j 0 : Nat) : Int))) := ha.below hb1
  have HR1 : Hid (RowI .i64 w1 (some ⟨w.heap.size, 0, none⟩) 4 (fun j => Rc.ws.getD j 0)) := hr1
  clear hb1 hr1 ha
  go_wp2_with fail
  refine (hE _ _ _ HA1.out HR1.out).mono ?_
  rintro e w2 ⟨rfl, hb2⟩
  have HB2 : Hid (Below w.heap.size w w2) := below2 HB1.out hb2
  clear hb2
  go_wp2
  go_ret
  exact ⟨rfl, HB2.out⟩
end Go.Proofs.YtjmeiifogblmoaaGreatDoor

namespace Go.Proofs.YtjmeiifogblmoaaGreatDoor
open Go.RowKit

theorem own_low {w : World} {A B t s n : Nat} {v : Value} {l : List Value} (h : w.ownsRow B t s v n l) (hA : A ≤ B) : w.ownsRow A t s v n l :=
  ⟨h.1, h.2.imp id fun ⟨g, cap, cur, hv, hg, rest⟩ => ⟨g, cap, cur, hv, Nat.le_trans hA hg, rest⟩⟩
set_option maxRecDepth 100000 in
set_option maxHeartbeats 2000000 in
theorem Encode12_no (seq : Nat) (row : Int) (a : Option Addr) (n cap : Nat) (f : Nat → Prt) (w : World) (hin : RecIn row n f) (hp : PartsR w a n f) (h : Rc.mayB row n f = false) :
    Calls Tryz.prog 38 #[.agg #[.int .u64 (seq : Int), .int .i64 row, .slice a n cap]] w (EncOwn w seq row n f) := by
  have hM := May12_any (seq : Int) row a n cap f (w.alloc (.cells #[.int .u64 (seq : Int), .int .i64 row, .slice a n cap] 71)) hin (hp.below ((Below.refl _ w).alloc (Nat.le_refl _) _))
  rw [h] at hM
  have HN : Hid (Rc.mayB row n f = false) := h
  clear h hp hin
  go_enter Tryz.func38, Tryz.ntmps38
  go_wp2_with fail
  refine hM.mono ?_
  rintro e w1 ⟨rfl, b1⟩
  have HB : Hid (Below w.heap.size w w1) := box_below b1
  clear b1 hM
  go_wp2
  go_ret3
  refine ⟨.slice none 0 0, ?_, ?_, HB.out⟩
  · unfold Rc.encT Rc.encE; rw [HN.out]; rfl
  · unfold Rc.encN; rw [HN.out]; exact ⟨rfl, .inl ⟨rfl, rfl⟩⟩

set_option maxRecDepth 100000 in
set_option maxHeartbeats 4000000 in
theorem Encode12_yes (seq rw_ b off n cap : Nat) (f : Nat → Prt) (w : World) (h0 : seq < 18446744073709551616) (hin : RecIn rw_ n f) (hp : ∀ j, j < n → PartAt w b (off + j * 3) (f j)) (h : Rc.mayB rw_ n f = true) :
    Calls Tryz.prog 38 #[.agg #[.int .u64 (seq : Int), .int .i64 (rw_ : Int), .slice (some ⟨b, off, none⟩) n cap]] w (EncOwn w seq rw_ n f) := by
  obtain ⟨hfu, hpl⟩ := (Rc.may_iff _ _ _).1 h
  obtain ⟨hfew, hok⟩ := (Rc.places_iff _ _ _).1 hpl
  obtain ⟨_, r1, n1, n40⟩ := (Rc.few_iff _ _).1 hfew
  have hrl : rw_ < 65536 := by omega
  have hnl : n < 256 := by omega
  have hsl := Rc.sumF_lt n f
  have hpr : PartsR w (some ⟨b, off, none⟩) n f := fun j hj => ⟨b, off, rfl, hp j hj⟩
  have hM := May12_any (seq : Int) rw_ (some ⟨b, off, none⟩) n cap f (w.alloc (.cells #[.int .u64 (seq : Int), .int .i64 (rw_ : Int), .slice (some ⟨b, off, none⟩) n cap] 71)) hin (hpr.below ((Below.refl _ w).alloc (Nat.le_refl _) _))
  rw [h] at hM
  have h64 := (Rc.fullTo_iff f n).1 hfu
  have hLo := fun (W : World) (hW : Below w.heap.size w W) => loaded12_some b off n cap f W (by omega) (fun j hj => by have := h64 j hj; omega) (fun j hj => (hp j hj).below hW (hp j hj).lt)
  have hTo := fun (W : World) (a' : Option Addr) (c' : Nat) (hc : n ≤ c') (hr : RowS W a' n (fun j => (f j).data)) => total12_any a' n c' f W n1 (by omega) hc (fun j hj => by have := h64 j hj; omega) hr
  have hPu := fun (W : World) (a' : Option Addr) (ca : Nat) (s : Nat) (hs : s = Rc.sumF n f) (hr : RowI .u64 W a' 4 (fun j => (([seq, rw_, n, s].getD j 0 : Nat) : Int))) => put12_any h0 hrl hnl (by rw [hs]; exact hsl) a' ca W hr
  have hbs := Rc.body_size (seq := seq) (row := (rw_ : Int)) (n := n) (s := Rc.sumF n f) h0 (by omega) hnl hsl f
  have hns := Rc.nums_size (seq := seq) (row := (rw_ : Int)) (n := n) (s := Rc.sumF n f) h0 (by omega) hnl hsl
  obtain ⟨sm, hsm⟩ : ∃ sm, sm = Rc.sumF n f := ⟨_, rfl⟩
  have hPu2 := fun (W : World) (a' : Option Addr) (ca : Nat) hr => hPu W a' ca sm hsm hr
  rw [← hsm] at hsl hbs hns hTo
  obtain ⟨q, hq⟩ : ∃ q, q = Rc.numsB seq rw_ n sm := ⟨_, rfl⟩
  rw [← hq] at hPu2 hns
  have HBd : Hid (Rc.bodyB seq rw_ n f sm = Rc.magicB ++ q ++ Rc.plTo f n) := by show _ = _; unfold Rc.bodyB; rw [hq]
  have HT : Hid (Rc.encT seq rw_ n f = Crc.sealB (Rc.bodyB seq rw_ n f sm) 64 ∧ Rc.encN rw_ n f = n ∧ Rc.encE rw_ n f = 0) := by
    refine ⟨?_, ?_, ?_⟩
    · unfold Rc.encT Rc.headS; rw [if_pos h, hsm]
    · unfold Rc.encN; rw [if_pos h]
    · unfold Rc.encE; rw [if_pos h]
  have HSz : Hid ((Rc.bodyB seq rw_ n f sm).size = 19 + n) := hbs
  have HPl : Hid (∀ j, j < n → Rc.inB (f j) = true) := fun j hj => ((Rc.okTo_iff f n).1 hok j hj).1
  have HP : Hid (∀ j, j < n → PartAt w b (off + j * 3) (f j)) := hp
  have HLo : Hid _ := hLo
  have HTo : Hid _ := hTo
  have HPu : Hid _ := hPu2
  have hmx : Tryz.prog.follows .mixedOrders = true := by kernel_rfl
  have HMX : Hid (Tryz.prog.follows .mixedOrders = true) := hmx
  have hw1 : IntKind.u64.wrap (rw_ : Int) = (rw_ : Int) := by rw [IntKind.wrap_u64]; omega
  have hw2 : IntKind.u64.wrap (n : Int) = (n : Int) := by rw [IntKind.wrap_u64]; omega
  have hw3 : IntKind.u64.wrap (sm : Int) = (sm : Int) := by rw [IntKind.wrap_u64]; omega
  have hq16 : q.size ≤ 16 := by omega
  have hls : (({ data := #[82, 86, 84, 74] } : ByteArray) ++ q).size ≤ 20 := by rw [ByteArray.size_append]; show 4 + q.size ≤ 20; omega
  have hlq : ¬ 9223372036854775807 < 4 + q.size := by omega
  have hz : Rc.plTo f 0 = ⟨#[]⟩ := rfl
  clear hfu hpl hfew hok hpr hp hin h hLo hTo hPu hPu2 hmx h64 hbs hns hq hsm hsl
  go_enter Tryz.func38, Tryz.ntmps38
  go_wp2_with fail
  refine hM.mono ?_
  rintro e w1 ⟨rfl, b1⟩
  have k2 : w1.cell? ⟨w.heap.size, 2, none⟩ = some (.slice (some ⟨b, off, none⟩) n cap) := box_cell b1 2
  have HK1 : Hid (w1.cell? ⟨w.heap.size, 0, none⟩ = some (.int .u64 (seq : Int)) ∧ w1.cell? ⟨w.heap.size, 1, none⟩ = some (.int .i64 (rw_ : Int)) ∧ w1.cell? ⟨w.heap.size, 2, none⟩ = some (.slice (some ⟨b, off, none⟩) n cap)) := ⟨box_cell b1 0, box_cell b1 1, box_cell b1 2⟩
  have HB1 : Hid (Below w.heap.size w w1) := box_below b1
  clear b1 hM
  go_wp2_with fail
  refine (HLo.out _ HB1.out).mono ?_
  rintro e w2 ⟨v, rfl, hown, b2⟩
  have hl0 := World.block_lt_of_cell? w1 _ HK1.out.1
  have k0 := (b2.cell (p := ⟨w.heap.size, 0, none⟩) hl0).trans HK1.out.1
  have k1 := (b2.cell (p := ⟨w.heap.size, 1, none⟩) hl0).trans HK1.out.2.1
  replace k2 := (b2.cell (p := ⟨w.heap.size, 2, none⟩) hl0).trans HK1.out.2.2
  have HB2 : Hid (Below w.heap.size w w2) := below2 HB1.out b2
  have OWN2 : Hid (w2.ownsRow w.heap.size 9 1 v n (textVals n fun j => (f j).data)) := own_low hown HB1.out.size
  obtain ⟨aL, cL, rfl, hrs, hcL, _⟩ := RowS.of_owns hown
  have HR2 : Hid (RowS w2 aL n (fun j => (f j).data)) := hrs
  have HcL : Hid (n ≤ cL) := hcL
  clear hown b2 hl0 hrs hcL
  go_wp2_with fail
  refine wp_region_held (S := fun W => W.cell? ⟨w.heap.size, 0, none⟩ = some (.int .u64 (seq : Int)) ∧ W.cell? ⟨w.heap.size, 1, none⟩ = some (.int .i64 (rw_ : Int)) ∧ W.cell? ⟨w.heap.size, 2, none⟩ = some (.slice (some ⟨b, off, none⟩) n cap)) HMX.out ?_
  have hS : (fun W : World => W.cell? ⟨w.heap.size, 0, none⟩ = some (.int .u64 (seq : Int)) ∧ W.cell? ⟨w.heap.size, 1, none⟩ = some (.int .i64 (rw_ : Int)) ∧ W.cell? ⟨w.heap.size, 2, none⟩ = some (.slice (some ⟨b, off, none⟩) n cap)) w2.drew := ⟨k0, k1, k2⟩
  change wpAnyH _ _ _ _ _ _ _ _ w2.drew
  refine held_quiet 0 (v := ?v0q1) rfl (by kernel_rfl) (fun _ _ _ h => h) (by assumption) rfl ?hy0q1 ?rest0q1
  case hy0q1 => (intro wS hSw; (try dsimp only at hSw); go_simp; try with_reducible rfl)
  try simp only [Act.put, List.setIfInBounds_toArray, List.set_cons_zero, List.set_cons_succ]
  refine held_quiet 1 (v := ?v1q2) rfl (by kernel_rfl) (fun _ _ _ h => h) (by assumption) rfl ?hy1q2 ?rest1q2
  case hy1q2 => (intro wS hSw; (try dsimp only at hSw); go_simp; try with_reducible rfl)
  try simp only [Act.put, List.setIfInBounds_toArray, List.set_cons_zero, List.set_cons_succ]
  refine held_quiet 2 (v := ?v2q3) rfl (by kernel_rfl) (fun _ _ _ h => h) (by assumption) rfl ?hy2q3 ?rest2q3
  case hy2q3 => (intro wS hSw; (try dsimp only at hSw); go_simp; try with_reducible rfl)
  try simp only [Act.put, List.setIfInBounds_toArray, List.set_cons_zero, List.set_cons_succ]
  refine held_quiet 3 (v := ?v3q4) rfl (by kernel_rfl) (fun _ _ _ h => h) (by assumption) rfl ?hy3q4 ?rest3q4
  case hy3q4 => (intro wS hSw; (try dsimp only at hSw); go_simp; try with_reducible rfl)
  try simp only [Act.put, List.setIfInBounds_toArray, List.set_cons_zero, List.set_cons_succ]
  refine held_quiet 4 (v := ?v4q5) rfl (by kernel_rfl) (fun _ _ _ h => h) (by assumption) rfl ?hy4q5 ?rest4q5
  case hy4q5 => (intro wS hSw; (try dsimp only at hSw); go_simp; try with_reducible rfl)
  try simp only [Act.put, List.setIfInBounds_toArray, List.set_cons_zero, List.set_cons_succ]
  refine held_quiet 5 (v := ?v5q6) rfl (by kernel_rfl) (fun _ _ _ h => h) (by assumption) rfl ?hy5q6 ?rest5q6
  case hy5q6 => (intro wS hSw; (try dsimp only at hSw); go_simp; try with_reducible rfl)
  try simp only [Act.put, List.setIfInBounds_toArray, List.set_cons_zero, List.set_cons_succ]
  refine held_quiet 6 (v := ?v6q7) rfl (by kernel_rfl) (fun _ _ _ h => h) (by assumption) rfl ?hy6q7 ?rest6q7
  case hy6q7 => (intro wS hSw; (try dsimp only at hSw); go_simp; try with_reducible rfl)
  try simp only [Act.put, List.setIfInBounds_toArray, List.set_cons_zero, List.set_cons_succ]
  refine held_quiet 7 (v := ?v7q8) rfl (by kernel_rfl) (fun _ _ _ h => h) (by assumption) rfl ?hy7q8 ?rest7q8
  case hy7q8 => (intro wS hSw; (try dsimp only at hSw); go_simp; try with_reducible rfl)
  try simp only [Act.put, List.setIfInBounds_toArray, List.set_cons_zero, List.set_cons_succ]
  refine held_quiet 8 (v := ?v8q9) rfl (by kernel_rfl) (fun _ _ _ h => h) (by assumption) rfl ?hy8q9 ?rest8q9
  case hy8q9 => (intro wS hSw; (try dsimp only at hSw); go_simp; try with_reducible rfl)
  try simp only [Act.put, List.setIfInBounds_toArray, List.set_cons_zero, List.set_cons_succ]
  refine held_quiet 9 (v := ?v9q10) rfl (by kernel_rfl) (fun _ _ _ h => h) (by assumption) rfl ?hy9q10 ?rest9q10
  case hy9q10 => (intro wS hSw; (try dsimp only at hSw); go_simp; try with_reducible rfl)
  try simp only [Act.put, List.setIfInBounds_toArray, List.set_cons_zero, List.set_cons_succ]
  refine held_one 10 rfl (by kernel_rfl) ?_
  go_wp2_with (go_at_call 72; refine (HTo.out _ _ _ HcL.out (RowS.drew HR2.out)).mono ?_; rintro e w3 ⟨rfl, b3⟩)
  have HB3 : Hid (Below w2.heap.size w2 w3) := (Below.refl w2.heap.size w2).drew.trans b3
  have hS3 : (fun W : World => W.cell? ⟨w.heap.size, 0, none⟩ = some (.int .u64 (seq : Int)) ∧ W.cell? ⟨w.heap.size, 1, none⟩ = some (.int .i64 (rw_ : Int)) ∧ W.cell? ⟨w.heap.size, 2, none⟩ = some (.slice (some ⟨b, off, none⟩) n cap)) w3 := by
    have hl0 := World.block_lt_of_cell? w2 _ k0
    exact ⟨(HB3.out.cell (p := ⟨w.heap.size, 0, none⟩) hl0).trans k0, (HB3.out.cell (p := ⟨w.heap.size, 1, none⟩) hl0).trans k1, (HB3.out.cell (p := ⟨w.heap.size, 2, none⟩) hl0).trans k2⟩
  try refine ⟨hS3, ?_⟩
  clear b3
  refine held_quiet 11 (v := ?v11q11) rfl (by kernel_rfl) (fun _ _ _ h => h) (by assumption) rfl ?hy11q11 ?rest11q11
  case hy11q11 => (intro wS hSw; (try dsimp only at hSw); go_simp; try with_reducible rfl)
  try simp only [Act.put, List.setIfInBounds_toArray, List.set_cons_zero, List.set_cons_succ]
  refine held_one 12 rfl (by kernel_rfl) ?_
  go_wp2
  have b4 : Below w3.heap.size w3 (w3.alloc (.cells #[.int .u64 (seq : Int), .int .u64 (rw_ : Int), .int .u64 (n : Int), .int .u64 (sm : Int)] 57)) := (Below.refl _ w3).alloc (Nat.le_refl _) _
  have hr4 := RowI.newN .u64 w3 [seq, rw_, n, sm] #[.int .u64 (seq : Int), .int .u64 (rw_ : Int), .int .u64 (n : Int), .int .u64 (sm : Int)] 57 rfl
  have hS4 : (fun W : World => W.cell? ⟨w.heap.size, 0, none⟩ = some (.int .u64 (seq : Int)) ∧ W.cell? ⟨w.heap.size, 1, none⟩ = some (.int .i64 (rw_ : Int)) ∧ W.cell? ⟨w.heap.size, 2, none⟩ = some (.slice (some ⟨b, off, none⟩) n cap)) (w3.alloc (.cells #[.int .u64 (seq : Int), .int .u64 (rw_ : Int), .int .u64 (n : Int), .int .u64 (sm : Int)] 57)) := by
    have hl0 := World.block_lt_of_cell? w3 _ hS3.1
    exact ⟨(b4.cell (p := ⟨w.heap.size, 0, none⟩) hl0).trans hS3.1, (b4.cell (p := ⟨w.heap.size, 1, none⟩) hl0).trans hS3.2.1, (b4.cell (p := ⟨w.heap.size, 2, none⟩) hl0).trans hS3.2.2⟩
  try refine ⟨hS4, ?_⟩
  have HR4 : Hid (RowI .u64 (w3.alloc (.cells #[.int .u64 (seq : Int), .int .u64 (rw_ : Int), .int .u64 (n : Int), .int .u64 (sm : Int)] 57)) (some ⟨w3.heap.size, 0, none⟩) 4 (fun j => (([seq, rw_, n, sm].getD j 0 : Nat) : Int))) := hr4
  have HB4 : Hid (Below w2.heap.size w2 (w3.alloc (.cells #[.int .u64 (seq : Int), .int .u64 (rw_ : Int), .int .u64 (n : Int), .int .u64 (sm : Int)] 57))) := below2 HB3.out b4
  clear hr4 b4
  refine held_one 13 rfl (by kernel_rfl) ?_
  go_wp2_with (go_at_call 71; refine (HPu.out _ _ _ HR4.out).mono ?_; rintro e w5 ⟨rfl, b5⟩)
  have HB5 : Hid (Below w2.heap.size w2 w5) := below2 HB4.out b5
  have hS5 : (fun W : World => W.cell? ⟨w.heap.size, 0, none⟩ = some (.int .u64 (seq : Int)) ∧ W.cell? ⟨w.heap.size, 1, none⟩ = some (.int .i64 (rw_ : Int)) ∧ W.cell? ⟨w.heap.size, 2, none⟩ = some (.slice (some ⟨b, off, none⟩) n cap)) w5 := by
    have hl0 := World.block_lt_of_cell? w2 _ k0
    exact ⟨(HB5.out.cell (p := ⟨w.heap.size, 0, none⟩) hl0).trans k0, (HB5.out.cell (p := ⟨w.heap.size, 1, none⟩) hl0).trans k1, (HB5.out.cell (p := ⟨w.heap.size, 2, none⟩) hl0).trans k2⟩
  try refine ⟨hS5, ?_⟩
  have HC5 : Hid (w5.cell? ⟨w.heap.size, 2, none⟩ = some (.slice (some ⟨b, off, none⟩) n cap)) := hS5.2.2
  clear b5 hS3 hS4
  refine held_quiet 14 (v := ?v14q12) rfl (by kernel_rfl) (fun _ _ _ h => h) (by assumption) rfl ?hy14q12 ?rest14q12
  case hy14q12 => (intro wS hSw; (try dsimp only at hSw); go_simp; try with_reducible rfl)
  try simp only [Act.put, List.setIfInBounds_toArray, List.set_cons_zero, List.set_cons_succ]
  refine held_quiet 15 (v := ?v15q13) rfl (by kernel_rfl) (fun _ _ _ h => h) (by assumption) rfl ?hy15q13 ?rest15q13
  case hy15q13 => (intro wS hSw; (try dsimp only at hSw); go_simp; try with_reducible rfl)
  try simp only [Act.put, List.setIfInBounds_toArray, List.set_cons_zero, List.set_cons_succ]
  refine held_done (by kernel_rfl) ?_
  have HBW5 : Hid (Below w.heap.size w w5) := below2 HB2.out HB5.out
  have OWN5 : Hid (w5.ownsRow w.heap.size 9 1 (.slice aL n cL) n (textVals n fun j => (f j).data)) := ownsRow_below OWN2.out HB5.out
  have k25 := hS5.2.2
  clear hS hS5 k0 k1 k2 hw1 hw2 hw3
  go_wp2
  go_loopg [6, 35] n (fun gg x i wr => ∃ (k : Nat) (y : ByteArray), k ≤ n ∧ gg = n - k ∧ x = .string y ∧ y = Rc.magicB ++ q ++ Rc.plTo f k ∧ i = .int .i64 (k : Int) ∧ Below w5.heap.size w5 wr)
  case atStart => exact ⟨0, _, Nat.zero_le _, rfl, rfl, by rw [hz]; apply Pg.eq_of_list; simp [Rc.magicB], rfl, Below.refl _ _⟩
  case round =>
  obtain ⟨k, y, hk, rfl, rfl, hy, rfl, hbz⟩ := hrel
  have HB : Hid (Below w5.heap.size w5 wr) := hbz
  have HY : Hid (y = Rc.magicB ++ q ++ Rc.plTo f k) := hy
  have hys : y.size ≤ 60 := by
    rw [hy, ByteArray.size_append, ByteArray.size_append, Rc.plTo_size]
    show 4 + q.size + k ≤ 60
    omega
  have hl0 := World.block_lt_of_cell? w5 _ HC5.out
  have HBW : Hid (Below w.heap.size w wr) := below2 HBW5.out hbz
  have hszr := hbz.size
  clear hbz hy hl0 hls hz k25
  by_cases hlt : k < n
  case neg =>
    have hkn : k = n := by omega
    subst hkn
    have HSl : Hid (Rc.encT seq rw_ k f = Crc.sealB y 64) := by show _ = _; rw [HT.out.1, HBd.out, HY.out]
    have OWNr : Hid (wr.ownsRow w.heap.size 9 1 (.slice aL k cL) k (textVals k fun j => (f j).data)) := ownsRow_below OWN5.out HB.out
    clear hlt hk
    go_wp2_with fail
    refine (Seal_yes y 64 (by decide) (by decide) hys _).mono ?_
    rw [← HSl.out]
    rintro e w6 ⟨rfl, b6⟩
    have HB6 : Hid (Below w.heap.size w w6) := below2 HBW.out b6
    have OWN6 : Hid (w6.ownsRow w.heap.size 9 1 (.slice aL k cL) k (textVals k fun j => (f j).data)) := ownsRow_below OWNr.out b6
    clear b6
    go_wp2
    go_ret3
    refine ⟨.slice aL k cL, ?_, ?_, HB6.out⟩
    · rw [HT.out.2.2]; rfl
    · rw [HT.out.2.1]; exact OWN6.out
  case pos =>
  have hki : (k : Int) < (n : Int) := by omega
  have hpk := (HP.out k hlt).below HBW.out (HP.out k hlt).lt
  have c0 := hpk.c0
  have c1 := hpk.c1
  have c2 := hpk.c2
  have hpl : Rc.plTo f (k + 1) = Rc.plTo f k ++ ⟨#[Rc.plB (f k)]⟩ := rfl
  have hCo := fun W => code12_any (f k) (HPl.out k hlt) W
  obtain ⟨x, hx⟩ : ∃ x, x = f k := ⟨_, rfl⟩
  rw [← hx] at c0 c1 c2 hpl hCo
  obtain ⟨xc, xo, xd⟩ := x
  dsimp only at c0 c1 c2 hCo
  obtain ⟨c, hc⟩ : ∃ c, c = Rc.plB ⟨xc, xo, xd⟩ := ⟨_, rfl⟩
  rw [← hc] at hpl hCo
  have HPl1 : Hid (Rc.plTo f (k + 1) = Rc.plTo f k ++ ⟨#[c]⟩) := hpl
  obtain ⟨pv, hpv⟩ : ∃ pv, pv = c.toNat := ⟨_, rfl⟩
  rw [← hpv] at hCo
  have hcv : ∀ W : World, (convert 44 9 (.slice (some ⟨W.heap.size, 0, none⟩) 1 1)).run Tryz.prog (W.alloc (.cells #[.int .u8 (pv : Int)] 5)) = .ok (.string ⟨#[c]⟩) (W.alloc (.cells #[.int .u8 (pv : Int)] 5)) := by
    intro W
    refine run_convert_bytes_back _ _ _ 5 _ 1 [c] Tryz.underlying44 Tryz.underlying5 Tryz.underlying9 fun j hj => ?_
    have : j = 0 := by simpa using hj
    subst this
    have hadd : (⟨W.heap.size, 0, none⟩ : Addr).add 0 = ⟨W.heap.size, 0, none⟩ := by unfold Addr.add; split <;> simp_all
    rw [hadd, World.cell?_alloc_mark]
    simp [hpv]
  have hcs : (⟨#[c]⟩ : ByteArray).size = 1 := rfl
  have hlim : ¬ 9223372036854775807 < y.size + 1 := by omega
  have hc2s : (y ++ (⟨#[c]⟩ : ByteArray)).size ≤ 61 := by rw [ByteArray.size_append, hcs]; omega
  have HBX : Hid (Below w5.heap.size w5 (wr.alloc (.cells #[.int .i64 xc, .int .i64 xo, .string xd] 83))) := HB.out.alloc hszr _
  have HCo : Hid _ := hCo
  clear hpk hx hc hpl hpv hCo
  go_wp2_with fail
  refine (HCo.out _).mono ?_
  rintro e w6 ⟨rfl, b6⟩
  have HB6 : Hid (Below w5.heap.size w5 w6) := below2 HBX.out b6
  clear b6 c0 c1 c2
  go_wp2
  go_roundg (n - (k + 1))
  case measure => omega
  case rel => exact ⟨k + 1, _, by omega, rfl, rfl, by rw [HPl1.out, HY.out]; apply Pg.eq_of_list; simp, by go_num, HB6.out.alloc HB6.out.size _⟩

/-- the program's own Encode, of any record -/
theorem Encode12_any (seq : Nat) (row : Int) (a : Option Addr) (n cap : Nat) (f : Nat → Prt) (w : World) (h0 : seq < 18446744073709551616) (hin : RecIn row n f) (hp : PartsR w a n f) :
    Calls Tryz.prog 38 #[.agg #[.int .u64 (seq : Int), .int .i64 row, .slice a n cap]] w (EncOwn w seq row n f) := by
  cases h : Rc.mayB row n f with
  | false => exact Encode12_no seq row a n cap f w hin hp h
  | true =>
    obtain ⟨r0, r1, n1, n40⟩ := (Rc.few_iff _ _).1 ((Rc.places_iff _ _ _).1 ((Rc.may_iff _ _ _).1 h).2).1
    obtain ⟨b, off, rfl, hp2⟩ := hp.head (by omega)
    obtain ⟨rw_, rfl⟩ := Int.eq_ofNat_of_zero_le r0
    exact Encode12_yes seq rw_ b off n cap f w h0 hin hp2 h
end Go.Proofs.YtjmeiifogblmoaaGreatDoor
