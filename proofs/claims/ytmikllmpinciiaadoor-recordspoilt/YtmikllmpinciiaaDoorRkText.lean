/- The walks of the program's own sectors, total, loaded, code, place and put. -/
import Derived.Test.YtmikllmpinciiaaDoorMRkA
import Derived.Test.YtmikllmpinciiaaDoorKitTexts
import Derived.Test.YtmikllmpinciiaaDoorKitRet
import Derived.Test.YtmikllmpinciiaaDoorCrcSeal
import Derived.Test.YtmikllmpinciiaaDoorMPackA
import Derived.OwnWalk
namespace Go.Proofs.YtmikllmpinciiaaDoor
open Go.RowKit

namespace Rc
/-- texts without places -/
def bareF (g : Nat → ByteArray) (j : Nat) : Prt := ⟨0, 0, g j⟩
end Rc
set_option maxRecDepth 100000 in
set_option maxHeartbeats 2000000 in
theorem sectors12_some (b off n cap : Nat) (g : Nat → ByteArray) (w : World) (hn : n ≤ 60) (hp : RowS w (some ⟨b, off, none⟩) n g) :
    Calls Tryd.prog 36 #[.slice (some ⟨b, off, none⟩) n cap] w fun e w' => e = .returned (.bool (Rc.fullTo (Rc.bareF g) n)) ∧ w' = w := by
  have HP : Hid (∀ j, j < n → w.cell? ⟨b, off + j, none⟩ = some (.string (g j))) := fun j hj => hp.at hj
  clear hp
  go_enter Tryd.func36, Tryd.ntmps36
  go_wp2
  go_loopg [4, 7] n (fun gg s i wr => ∃ k : Nat, k ≤ n ∧ gg = n - k ∧ i = .int .i64 (k : Int) ∧ wr = w ∧ Rc.fullTo (Rc.bareF g) k = true)
  case atStart => exact ⟨0, Nat.zero_le _, rfl, rfl, rfl, rfl⟩
  case round =>
  obtain ⟨k, hk, rfl, rfl, rfl, hfu⟩ := hrel
  have HF : Hid (Rc.fullTo (Rc.bareF g) k = true) := hfu
  clear hfu
  by_cases hlt : k < n
  case neg =>
    have hkn : k = n := by omega
    subst hkn
    clear hlt hk
    go_wp2
    go_ret
    exact ⟨by rw [HF.out]; rfl, rfl⟩
  case pos =>
  have hki : (k : Int) < (n : Int) := by omega
  have c0 := HP.out k hlt
  obtain ⟨s, hs⟩ : ∃ s, s = g k := ⟨_, rfl⟩
  rw [← hs] at c0
  have HS : Hid (s = g k) := hs
  clear hs
  by_cases h64 : s.size = 64
  · have hne : ((s.size : Int) != 64) = false := by rw [bne_eq_false_iff_eq]; omega
    have HN : Hid (Rc.fullTo (Rc.bareF g) (k + 1) = true) := by
      show _ = _
      unfold Rc.fullTo
      rw [HF.out, Bool.true_and, decide_eq_true_iff]; show (g k).size = 64; rw [← HS.out]; exact h64
    clear h64
    go_wp2
    go_roundg (n - (k + 1))
    case measure => omega
    case rel => exact ⟨k + 1, by omega, rfl, by go_num, rfl, HN.out⟩
  · have hne : ((s.size : Int) != 64) = true := by rw [bne_iff_ne]; omega
    have HNo : Hid (Rc.fullTo (Rc.bareF g) n = false) := Rc.fullTo_not hlt (by show (g k).size ≠ 64; rw [← HS.out]; exact h64)
    clear h64
    go_wp2
    go_ret
    exact ⟨by rw [HNo.out]; rfl, rfl⟩

theorem flat_len (f : Nat → Prt) (n : Nat) (h : ∀ j, j < n → (f j).data.size ≤ 100) : (Rc.catTo f n).size ≤ 100 * n := by
  induction n with
  | zero => exact Nat.le_refl _
  | succ n ih =>
    unfold Rc.catTo
    rw [ByteArray.size_append]
    have := ih (fun j hj => h j (by omega))
    have := h n (by omega)
    omega
theorem join_flat (xs : List (List UInt8)) : Lib.join xs [] = xs.flatten := by
  cases xs with
  | nil => rfl
  | cons x r =>
    rw [Lib.join_cons]
    unfold Lib.joinTail
    simp
set_option maxRecDepth 100000 in
set_option maxHeartbeats 1000000 in
theorem total12_some (b off n cap : Nat) (f : Nat → Prt) (w : World) (n1 : 1 ≤ n) (hn : n ≤ 60) (hc : n ≤ cap) (hd : ∀ j, j < n → (f j).data.size ≤ 100) (hp : RowS w (some ⟨b, off, none⟩) n (fun j => (f j).data)) :
    Calls Tryd.prog 25 #[.slice (some ⟨b, off, none⟩) n cap] w fun e w' => e = .returned (.int .u32 (Rc.sumF n f : Nat)) ∧ Below w.heap.size w w' := by
  obtain ⟨xs, hxs⟩ : ∃ xs, xs = (List.range n).map fun j => (f j).data := ⟨_, rfl⟩
  have hxl : xs.length = n := by rw [hxs]; simp
  have hfl : Lib.join (xs.map (·.data.toList)) (⟨#[]⟩ : ByteArray).data.toList = (Rc.catTo f n).data.toList := by
    rw [Rc.catTo_flat, ← hxs]
    exact join_flat _
  have hsz := flat_len f n hd
  have hJ := Tryd.strings_Join b off cap xs ⟨#[]⟩ w (fun j x hx => by
    rw [hxs] at hx
    have hj : j < n := by
      have := (List.getElem?_eq_some_iff.1 hx).1
      simpa using this
    simp [hj] at hx
    rw [← hx]
    exact hp.at hj) (World.block_lt_of_cell? w _ (hp.at (by omega : 0 < n))) (by omega) (by omega) (by
    rw [hfl, Pg.list_size]; omega)
  rw [hxl, hfl] at hJ
  have hmk : (⟨(Rc.catTo f n).data.toList.toArray⟩ : ByteArray) = Rc.catTo f n := Pg.eq_of_list (by simp)
  rw [hmk] at hJ
  have hS := fun W => Sum_any (Rc.catTo f n) (by unfold maxLen; omega) W
  have e : Crc.more 0 (Rc.catTo f n).data.toList = Rc.sumF n f := rfl
  rw [e] at hS
  generalize Rc.catTo f n = t at hJ hS
  generalize Rc.sumF n f = s at hS ⊢
  clear hp hd hxs hxl hfl hsz hmk e n1 hn hc
  go_enter Tryd.func25, Tryd.ntmps25
  go_wp2_with fail
  refine hJ.mono ?_
  rintro e w1 ⟨rfl, hb1⟩
  have HB1 : Hid (Below w.heap.size w w1) := hb1
  clear hb1 hJ
  go_wp2_with fail
  refine (hS _).mono ?_
  rintro e w2 ⟨rfl, hb2⟩
  have HB2 : Hid (Below w.heap.size w w2) := below2 HB1.out hb2
  clear hb2 hS
  go_wp2
  go_ret
  exact ⟨rfl, HB2.out⟩
theorem total12_any (a : Option Addr) (n cap : Nat) (f : Nat → Prt) (w : World) (n1 : 1 ≤ n) (hn : n ≤ 60) (hc : n ≤ cap) (hd : ∀ j, j < n → (f j).data.size ≤ 100) (hp : RowS w a n (fun j => (f j).data)) :
    Calls Tryd.prog 25 #[.slice a n cap] w fun e w' => e = .returned (.int .u32 (Rc.sumF n f : Nat)) ∧ Below w.heap.size w w' := by
  rcases hp.place with h | ⟨b, off, rfl⟩
  · omega
  · exact total12_some b off n cap f w n1 hn hc hd hp

set_option maxRecDepth 100000 in
set_option maxHeartbeats 1000000 in
theorem code12_any (x : Prt) (h : Rc.inB x = true) (w : World) :
    Calls Tryd.prog 26 #[.agg #[.int .i64 x.col, .int .i64 x.off, .string x.data]] w fun e w' => e = .returned (.int .u8 ((Rc.plB x).toNat : Int)) ∧ Below w.heap.size w w' := by
  obtain ⟨h1, h2, h3, h4⟩ := (Rc.in_iff x).1 h
  obtain ⟨c, o, d⟩ := x
  dsimp only at h1 h2 h3 h4 ⊢
  have HV : Hid (((Rc.plB ⟨c, o, d⟩).toNat : Int) = 4 * c + o) := by
    show _ = _
    unfold Rc.plB
    simp
    omega
  have hw3 : IntKind.u8.wrap (4 * c + o) = 4 * c + o := by rw [IntKind.wrap_u8]; omega
  clear h
  go_enter Tryd.func26, Tryd.ntmps26
  go_wp2
  go_ret
  exact ⟨by rw [HV.out]; rfl, (Below.refl _ w).alloc (Nat.le_refl _) _⟩

set_option maxRecDepth 100000 in
set_option maxHeartbeats 1000000 in
theorem place12_any (c : Nat) (h : c < 256) (w : World) :
    Calls Tryd.prog 53 #[.int .u8 (c : Int)] w fun e w' => e = .returned (.agg #[.int .i64 ((c / 4 : Nat) : Int), .int .i64 ((c % 4 : Nat) : Int), .string ⟨#[]⟩]) ∧ Below w.heap.size w w' := by
  have q1 : IntKind.u8.wrap ((c : Int).tdiv 4) = ((c / 4 : Nat) : Int) := by rw [IntKind.wrap_u8, Int.tdiv_eq_ediv_of_nonneg (by omega)]; omega
  have q2 : IntKind.u8.wrap ((c : Int).tmod 4) = ((c % 4 : Nat) : Int) := by rw [IntKind.wrap_u8, Int.tmod_eq_emod_of_nonneg (by omega)]; omega
  go_enter Tryd.func53, Tryd.ntmps53
  go_wp2
  refine bodyPost_ret (ret_cell rfl _ _ ⟨w.heap.size, 0, none⟩ (.agg #[.int .i64 ((c : Int) / 4), .int .i64 ((c : Int) % 4), .string ⟨#[]⟩]) rfl (by go_simp)) rfl ?_
  exact ⟨by rw [Int.natCast_ediv, Int.natCast_emod]; rfl, (Below.refl _ w).alloc (Nat.le_refl _) _⟩

set_option maxRecDepth 100000 in
set_option maxHeartbeats 2000000 in
theorem loaded12_some (b off n cap : Nat) (f : Nat → Prt) (w : World) (hn : n ≤ 60) (hd : ∀ j, j < n → (f j).data.size ≤ 100) (hp : ∀ j, j < n → PartAt w b (off + j * 3) (f j)) :
    Calls Tryd.prog 23 #[.slice (some ⟨b, off, none⟩) n cap] w fun e w' => ∃ v, e = .returned v ∧ w'.ownsRow w.heap.size 9 1 v n (textVals n fun j => (f j).data) ∧ Below w.heap.size w w' := by
  have HP : Hid (∀ j, j < n → PartAt w b (off + j * 3) (f j)) := hp
  have HD : Hid (∀ j, j < n → (f j).data.size ≤ 100) := hd
  obtain ⟨i0, hi, hz0, hz1, hz2⟩ := info_parts info_str
  clear hp hd
  go_enter Tryd.func23, Tryd.ntmps23
  go_wp2
  go_loopg [3, 8] n (fun gg v i wr => ∃ (k : Nat) (u : Value), k ≤ n ∧ gg = n - k ∧ u = v ∧ i = .int .i64 (k : Int) ∧ wr.ownsRow w.heap.size 9 1 u k (textVals k fun j => (f j).data) ∧ Below w.heap.size w wr)
  case atStart => exact ⟨0, _, Nat.zero_le _, rfl, rfl, rfl, ⟨rfl, .inl ⟨rfl, rfl⟩⟩, Below.refl _ _⟩
  case round =>
  obtain ⟨k, u, hk, rfl, rfl, rfl, hown, hb⟩ := hrel
  have HB : Hid (Below w.heap.size w wr) := hb
  have OWN : Hid (wr.ownsRow w.heap.size 9 1 u k (textVals k fun j => (f j).data)) := hown
  have hsz := hb.size
  clear hown
  by_cases hlt : k < n
  case neg =>
    have hkn : k = n := by omega
    subst hkn
    clear hlt hk hb
    go_wp2
    go_ret
    exact ⟨_, rfl, OWN.out, HB.out⟩
  case pos =>
  have hki : (k : Int) < (n : Int) := by omega
  have hpk := (HP.out k hlt).below hb (HP.out k hlt).lt
  have c0 := hpk.c0
  have c1 := hpk.c1
  have c2 := hpk.c2
  have hds := HD.out k hlt
  obtain ⟨x, hx⟩ : ∃ x, x = f k := ⟨_, rfl⟩
  rw [← hx] at c0 c1 c2 hds
  have HX : Hid (x = f k) := hx
  obtain ⟨xc, xo, s⟩ := x
  dsimp only at c0 c1 c2 hds
  have HBX : Hid (Below w.heap.size w (wr.alloc (.cells #[.int .i64 xc, .int .i64 xo, .string s] 58))) := HB.out.alloc hsz _
  have OWNX : Hid ((wr.alloc (.cells #[.int .i64 xc, .int .i64 xo, .string s] 58)).ownsRow w.heap.size 9 1 u k (textVals k fun j => (f j).data)) := OWN.out.alloc _
  clear hpk hx hb
  go_wp2_with fail
  refine (Clone_any s (by omega) _).mono ?_
  rintro e w2 ⟨rfl, hb2⟩
  have HB2 : Hid (Below w.heap.size w w2) := below2 HBX.out hb2
  have OWN2 : Hid (w2.ownsRow w.heap.size 9 1 u k (textVals k fun j => (f j).data)) := ownsRow_below OWNX.out hb2
  have hs2 := HB2.out.size
  clear hb2
  go_wp2_with (at_builtin; refine wpList_append_own _ rfl _ _ 26 rfl w.heap.size 9 i0 (.string ByteArray.empty) 1 16 Tryd.underlying26 hi hz0 hz1 hz2 rfl (by decide) u k (textVals k fun j => (f j).data) rfl (OWN2.out.alloc _) ⟨_, 0, none⟩ 1 1 [.string s] rfl rfl (cell_one_new _ _ _) (by simp [Value.oneCell']) (by unfold maxLen; omega) (by omega) (by simp; omega) ?_; intro v' w3 hown' hgrow _; obtain ⟨g', cap', rfl⟩ := ownsRow_succ hown'; have hb3 := below_append OWN2.out hs2 hgrow; have OWN3 : Hid (w3.ownsRow w.heap.size 9 1 (.slice (some ⟨g', 0, none⟩) (k + 1) cap') (k + 1) (textVals (k + 1) fun j => (f j).data)) := (by rw [← textVals_snoc, ← HX.out]; exact hown'); have HB3 : Hid (Below w.heap.size w w3) := HB2.out.trans hb3; clear hown' hgrow hb3)
  go_roundg (n - (k + 1))
  case measure => omega
  case rel => exact ⟨k + 1, _, by omega, rfl, rfl, by go_num, OWN3.out, HB3.out⟩

theorem widths12 (w : World) : Calls Tryd.prog 41 #[] w fun e w' => e = .returned (.slice (some ⟨w.heap.size, 0, none⟩) 4 4) ∧ RowI .i64 w' (some ⟨w.heap.size, 0, none⟩) 4 (fun j => Rc.ws.getD j 0) ∧ Below w.heap.size w w' := by
  go_enter Tryd.func41, Tryd.ntmps41
  go_wp2
  go_ret
  exact ⟨rfl, RowI.new .i64 w [8, 2, 1, 4] _ _ rfl, (Below.refl _ w).alloc (Nat.le_refl _) _⟩
theorem penc12 {seq rw_ n s : Nat} (h0 : seq < 18446744073709551616) (h1 : rw_ < 65536) (h2 : n < 256) (h3 : s < 4294967296) (a b : Option Addr) (ca cb : Nat) (w : World) (ha : RowI .u64 w a 4 (fun j => (([seq, rw_, n, s].getD j 0 : Nat) : Int))) (hb : RowI .i64 w b 4 (fun j => Rc.ws.getD j 0)) :
    Calls Tryd.prog 40 #[.slice a 4 ca, .slice b 4 cb] w fun e w' => e = .returned (.tuple #[.string (Rc.numsB seq rw_ n s), .int .i64 0]) ∧ Below w.heap.size w w' := by
  have h := Encode_any [seq, rw_, n, s] Rc.ws (by show 4 ≤ maxLen; decide) (by show 4 ≤ maxLen; decide) (by
    intro j
    match j with
    | 0 => exact h0
    | 1 => show rw_ < _; omega
    | 2 => show n < _; omega
    | 3 => show s < _; omega
    | j + 4 => exact Nat.lt_of_le_of_lt (Nat.zero_le seq) h0) a b ca cb w ha hb
  have e := Rc.nums_E (row := (rw_ : Int)) h0 (by omega) h2 h3
  rw [show (rw_ : Int).toNat = rw_ by omega] at e
  rw [e] at h
  have e2 : Rc.numsB seq rw_ n s = Pk.encS [seq, rw_, n, s] Rc.ws := by unfold Rc.numsB; rw [show (rw_ : Int).toNat = rw_ by omega]
  rw [e2]
  exact h
set_option maxRecDepth 100000 in
set_option maxHeartbeats 1000000 in
theorem put12_any {seq rw_ n s : Nat} (h0 : seq < 18446744073709551616) (h1 : rw_ < 65536) (h2 : n < 256) (h3 : s < 4294967296) (a : Option Addr) (ca : Nat) (w : World) (ha : RowI .u64 w a 4 (fun j => (([seq, rw_, n, s].getD j 0 : Nat) : Int))) :
    Calls Tryd.prog 24 #[.slice a 4 ca] w fun e w' => e = .returned (.string (Rc.numsB seq rw_ n s)) ∧ Below w.heap.size w w' := by
  have hE := fun (b : Option Addr) (cb : Nat) (W : World) => penc12 h0 h1 h2 h3 a b ca cb W
  generalize Rc.numsB seq rw_ n s = t at hE ⊢
  clear h0 h1 h2 h3
  go_enter Tryd.func24, Tryd.ntmps24
  go_wp2_with fail
  refine (widths12 _).mono ?_
  rintro e w1 ⟨rfl, hr1, hb1⟩
  have HB1 : Hid (Below w.heap.size w w1) := hb1
  have HA1 : Hid (RowI .u64 w1 a 4 (fun j => (([seq, rw_, n, s].getD j 0 : Nat) : Int))) := ha.below hb1
  have HR1 : Hid (RowI .i64 w1 (some ⟨w.heap.size, 0, none⟩) 4 (fun j => Rc.ws.getD j 0)) := hr1
  clear hb1 hr1 ha
  go_wp2_with fail
  refine (hE _ _ _ HA1.out HR1.out).mono ?_
  rintro e w2 ⟨rfl, hb2⟩
  have HB2 : Hid (Below w.heap.size w w2) := below2 HB1.out hb2
  clear hb2
  go_wp2
  go_ret
  exact ⟨rfl, HB2.out⟩
end Go.Proofs.YtmikllmpinciiaaDoor
