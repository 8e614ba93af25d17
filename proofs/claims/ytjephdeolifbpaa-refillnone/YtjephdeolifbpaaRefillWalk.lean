/- The walks of the program's own Fill and Make. -/
import Derived.Test.YtjephdeolifbpaaRwAll
import Derived.Test.YtjephdeolifbpaaRwJoin
import Derived.Test.YtjephdeolifbpaaRwMade
namespace Go.Proofs.Ytjephdeolifbpaa
open Go.RowKit

set_option maxRecDepth 100000 in
set_option maxHeartbeats 1000000 in
theorem Fill_no (n : Nat) (f : Nat → ByteArray) (hn : n ≤ 2000) (hf : Fits 1048576 n f) (a : Option Addr) (cap : Nat) (hcap : n ≤ cap) (ln : Nat) (L : Nat → Int) (hln : ln ≤ 1000) (b : Option Addr) (capb : Nat) (hcapb : ln ≤ capb) (w : World) (hr : RowS w a n f) (hl : RowI .i64 w b ln L) (hmay : Rf.mayF n f ln L ≠ 0) :
    Calls Try.prog 11 #[.slice a n cap, .slice b ln capb] w fun e w' => e = .returned (.tuple #[.slice none 0 0, .int .i64 (Rf.mayF n f ln L)]) ∧ Below w.heap.size w w' := by
  have hMAY := pMay_big n f hn hf a cap hcap ln L hln b capb hcapb w hr hl
  obtain ⟨x, hx⟩ : ∃ x, Rf.mayF n f ln L = x := ⟨_, rfl⟩
  rw [hx] at hMAY hmay
  rw [hx]
  have h0 : (x != 0) = true := by rw [bne_iff_ne]; exact hmay
  clear hx hmay
  go_enter Try.func11, Try.ntmps11
  go_wp2_with fail
  refine hMAY.mono ?_
  rintro e w1 ⟨rfl, b1⟩
  go_wp2
  go_ret2
  exact ⟨rfl, b1⟩

set_option maxRecDepth 100000 in
set_option maxHeartbeats 1000000 in
theorem Fill_ok (n : Nat) (f : Nat → ByteArray) (hn : n ≤ 2000) (hf : Fits 1048576 n f) (a : Option Addr) (cap : Nat) (hcap : n ≤ cap) (ln : Nat) (L : Nat → Int) (hln : ln ≤ 1000) (b : Option Addr) (capb : Nat) (hcapb : ln ≤ capb) (w : World) (hr : RowS w a n f) (hl : RowI .i64 w b ln L) (hmay : Rf.mayF n f ln L = 0) :
    Calls Try.prog 11 #[.slice a n cap, .slice b ln capb] w fun e w' => (∃ g, e = .returned (.tuple #[.slice (some ⟨g, 0, none⟩) n n, .int .i64 0]) ∧ RowS w' (some ⟨g, 0, none⟩) n (Rf.fillF n f ln L)) ∧ Below w.heap.size w w' := by
  have hMAY := pMay_big n f hn hf a cap hcap ln L hln b capb hcapb w hr hl
  rw [hmay] at hMAY
  obtain ⟨n4, n10, l2, hok, s, s4, hz, hs⟩ := Rf.mayF_tells hmay
  have hk : Rf.kc n (Rf.hasF ln L) + ln = n := Rf.kc_lost fun i hi => Rf.okL_at hok hi
  have hkl : 0 < (Rf.keptF f ln L n).length := by rw [Rf.keptF_length]; omega
  have hfirst : (Rf.keptG f ln L n 0).size = s := by
    unfold Rf.keptG
    rw [List.getD_eq_getElem?_getD, List.getElem?_eq_getElem hkl]
    obtain ⟨i, hi, hh, e⟩ := Rf.mem_keptF.1 (List.getElem_mem hkl)
    show (Rf.keptF f ln L n)[0].size = s
    rw [← e]; exact hs i hi hh
  have hBL : Hid (∀ W, Below w.heap.size w W → Calls Try.prog 20 #[.slice a n cap, .slice b ln capb] W fun e w' => ∃ g, e = .returned (.slice (some ⟨g, 0, none⟩) n n) ∧ w'.ownsRow W.heap.size 9 1 (.slice (some ⟨g, 0, none⟩) n n) n (textVals n (Rf.blankF f ln L s)) ∧ Below W.heap.size W w') := fun W hW => by
    have h := blanked_any n f hn hf a cap ln L hln b capb W (hr.below hW) (hl.below hW) hkl
    rw [hfirst] at h; exact h
  have hfits : Hid (Fits 1048576 n (Rf.blankF f ln L s)) := fun i hi => by
    rw [Rf.Lev.blank (s := s) hs i hi]; omega
  have hRF : Hid (∀ (w0 W : World) (g : Nat), 0 < ln → Below w.heap.size w W → Below w0.heap.size w0 W → W.ownsRow w0.heap.size 9 1 (.slice (some ⟨g, 0, none⟩) n n) n (textVals n (Rf.blankF f ln L s)) →
      Calls Try.prog 21 #[.slice (some ⟨g, 0, none⟩) n n, .slice b ln capb] W fun e W' => e = .returned (.tuple #[]) ∧ W'.ownsRow w0.heap.size 9 1 (.slice (some ⟨g, 0, none⟩) n n) n (textVals n (Rf.fillF n f ln L)) ∧ Below w0.heap.size w0 W') := fun w0 W g h0 hW hlow own =>
    refill_all (n - 2) n (by omega) (by omega) n10 w0 W g f ln L s h0 l2 (fun i hi => Rf.okL_at hok hi) hz hs hlow own hfits.out b capb (hl.below hW)
  have hNONE : Hid (ln = 0 → textVals n (Rf.blankF f ln L s) = textVals n (Rf.fillF n f ln L)) := fun e => textVals_congr fun i hi => by
    subst e
    have hL : Rf.Lost (n - 2) 0 L := Rf.Lost.zero (by omega) L
    have h := Rf.fillF_keeps (m := n - 2) (f := f) (s := s) hL (by omega) (fun i hi hh => hs i (by omega) hh) (i := i) (by omega) rfl
    rw [show n - 2 + 2 = n from by omega] at h
    rw [h]; rfl
  clear hmay hok hz hs hk hkl hfirst hr hl hf
  go_enter Try.func11, Try.ntmps11
  go_wp2_with fail
  refine hMAY.mono ?_
  rintro e w1 ⟨rfl, b1⟩
  have B1 : Hid (Below w.heap.size w w1) := b1
  clear hMAY b1
  go_wp2_with fail
  refine (hBL.out w1 B1.out).mono ?_
  rintro e w2 ⟨g, rfl, own, b2⟩
  have OWN : Hid (w2.ownsRow w1.heap.size 9 1 (.slice (some ⟨g, 0, none⟩) n n) n (textVals n (Rf.blankF f ln L s))) := own
  have B2 : Hid (Below w1.heap.size w1 w2) := b2
  have B02 : Hid (Below w.heap.size w w2) := below2 B1.out b2
  clear own b2
  by_cases h0 : (0 : Int) < (ln : Int)
  · have hR := hRF.out w1 w2 g (by omega) B02.out B2.out OWN.out
    clear hRF hNONE
    go_wp2_with fail
    refine hR.mono ?_
    rintro e w3 ⟨rfl, own3, b3⟩
    obtain ⟨a3, c3, e3, r3, _⟩ := RowS.of_owns own3
    cases e3
    have R3 : Hid (RowS w3 (some ⟨g, 0, none⟩) n (Rf.fillF n f ln L)) := r3
    have B3 : Hid (Below w.heap.size w w3) := below2 B1.out b3
    clear own3 r3 b3 hR
    go_wp2
    go_ret2
    exact ⟨⟨_, rfl, R3.out⟩, B3.out⟩
  · have own3 := OWN.out
    rw [hNONE.out (by omega)] at own3
    obtain ⟨a3, c3, e3, r3, _⟩ := RowS.of_owns own3
    cases e3
    have R3 : Hid (RowS w2 (some ⟨g, 0, none⟩) n (Rf.fillF n f ln L)) := r3
    clear own3 r3 hRF hNONE
    go_wp2
    go_ret2
    exact ⟨⟨_, rfl, R3.out⟩, B02.out⟩

theorem Fill_big (n : Nat) (f : Nat → ByteArray) (hn : n ≤ 2000) (hf : Fits 1048576 n f) (a : Option Addr) (cap : Nat) (hcap : n ≤ cap) (ln : Nat) (L : Nat → Int) (hln : ln ≤ 1000) (b : Option Addr) (capb : Nat) (hcapb : ln ≤ capb) (w : World) (hr : RowS w a n f) (hl : RowI .i64 w b ln L) :
    Calls Try.prog 11 #[.slice a n cap, .slice b ln capb] w fun e w' => FillSays n f ln L e w' ∧ Below w.heap.size w w' := by
  unfold FillSays
  by_cases h : Rf.mayF n f ln L = 0
  · refine (Fill_ok n f hn hf a cap hcap ln L hln b capb hcapb w hr hl h).mono ?_
    rintro e w' ⟨⟨g, rfl, hr'⟩, hb⟩
    rw [h, Rf.kF_ok]
    exact ⟨⟨_, _, rfl, hr', Nat.le_refl _⟩, hb⟩
  · refine (Fill_no n f hn hf a cap hcap ln L hln b capb hcapb w hr hl h).mono ?_
    rintro e w' ⟨rfl, hb⟩
    rw [Rf.kF_no h]
    exact ⟨⟨none, 0, rfl, RowS.nil _ _ _, Nat.le_refl _⟩, hb⟩

theorem Fill_says (n : Nat) (f : Nat → ByteArray) (hn : n ≤ 1000) (hf : Fits 1048576 n f) (a : Option Addr) (cap : Nat) (hcap : n ≤ cap) (ln : Nat) (L : Nat → Int) (hln : ln ≤ 1000) (b : Option Addr) (capb : Nat) (hcapb : ln ≤ capb) (w : World) (hr : RowS w a n f) (hl : RowI .i64 w b ln L) :
    Calls Try.prog 11 #[.slice a n cap, .slice b ln capb] w fun e w' => FillSays n f ln L e w' ∧ Below w.heap.size w w' := Fill_big n f (by omega) hf a cap hcap ln L hln b capb hcapb w hr hl

/-- two rows, one behind the other -/
def Rf.two2 {α : Type} (x y : α) (k : Nat) : α := if k = 0 then x else y
theorem Rf.joined_two (n : Nat) (f : Nat → ByteArray) : Rf.sumN (Rf.two2 n 2) 2 = n + 2 ∧ (∀ i, i < n → Rf.joinAll (Rf.two2 n 2) (Rf.two2 f fun _ => ByteArray.empty) 2 i = f i) ∧ ∀ i, n ≤ i → Rf.joinAll (Rf.two2 n 2) (Rf.two2 f fun _ => ByteArray.empty) 2 i = ByteArray.empty := by
  have e : Rf.sumN (Rf.two2 n 2) 2 = n + 2 := by show 0 + n + 2 = n + 2; omega
  refine ⟨e, fun i hi => ?_, fun i hi => ?_⟩
  · show joinF (0 + n) (joinF 0 (fun _ => ByteArray.empty) f) (fun _ => ByteArray.empty) i = f i
    unfold joinF
    rw [if_pos (by omega), if_neg (by omega)]; rfl
  · show joinF (0 + n) (joinF 0 (fun _ => ByteArray.empty) f) (fun _ => ByteArray.empty) i = ByteArray.empty
    unfold joinF
    rw [if_neg (by omega)]

set_option maxRecDepth 100000 in
set_option maxHeartbeats 2000000 in
theorem Make_says (n : Nat) (f : Nat → ByteArray) (hn : n ≤ 1000) (hf : Fits 1048576 n f) (a : Option Addr) (cap : Nat) (_hcap : n ≤ cap) (w : World) (hr : RowS w a n f) :
    Calls Try.prog 13 #[.slice a n cap] w fun e w' => MakeSays n f e w' ∧ Below w.heap.size w w' := by
  have hmk : ∀ W : World, (Instr.makeSlice 22 (.int .i64 2) (.int .i64 2)).run Try.prog W = .ok (.slice (some ⟨W.heap.size, 0, none⟩) 2 2) (W.alloc (.cells (madeCells #[.string ByteArray.empty] 2) 9)) :=
    run_make_row' (P := Try.prog) 22 9 (.string ByteArray.empty) 16 Try.underlying22 info_str rfl .i64 .i64 2 (by omega) (by omega)
  obtain ⟨w1, hw1⟩ : ∃ w1, w1 = w.alloc (.cells (madeCells #[.string ByteArray.empty] 2) 9) := ⟨_, rfl⟩
  have hz1 : w1.heap.size = w.heap.size + 1 := by rw [hw1]; simp
  obtain ⟨w2, hw2⟩ : ∃ w2, w2 = w1.alloc (.cells #[.slice a n cap, .slice (some ⟨w.heap.size, 0, none⟩) 2 2] 22) := ⟨_, rfl⟩
  have b1 : Below w.heap.size w w1 := by rw [hw1]; exact (Below.refl _ w).alloc (Nat.le_refl _) _
  have b12 : Below w1.heap.size w1 w2 := by rw [hw2]; exact (Below.refl _ w1).alloc (Nat.le_refl _) _
  have b2 : Below w.heap.size w w2 := below2 b1 b12
  have rm : RowS w2 (some ⟨w.heap.size, 0, none⟩) 2 (fun _ => ByteArray.empty) := by
    have h := RowS.new w 2 (fun _ => ByteArray.empty) (madeCells #[.string ByteArray.empty] 2) 9 (by rw [made_texts 2 f]; exact textVals_congr fun _ _ => rfl)
    rw [← hw1] at h
    exact h.below b12
  have hJ := Rf.joined_two n f
  obtain ⟨S, hS⟩ : ∃ S, Rf.sumN (Rf.two2 n 2) 2 = S := ⟨_, rfl⟩
  obtain ⟨J, hJJ⟩ : ∃ J, Rf.joinAll (Rf.two2 n 2) (Rf.two2 f fun _ => ByteArray.empty) 2 = J := ⟨_, rfl⟩
  have hCo := Concat_any 2 (by omega) w1.heap.size 2 (Rf.two2 a (some ⟨w.heap.size, 0, none⟩)) (Rf.two2 n 2) (Rf.two2 cap 2) (Rf.two2 f fun _ => ByteArray.empty) (by rw [hJ.1]; omega) (by rw [hJ.1]; omega) w2 (fun k hk => by
    rw [hw2, World.cell?_alloc_mark]
    have : k = 0 ∨ k = 1 := by omega
    rcases this with rfl | rfl <;> rfl) (fun k hk => by
    have : k = 0 ∨ k = 1 := by omega
    rcases this with rfl | rfl
    · exact hr.below b2
    · exact rm)
  rw [hJJ, hJ.1] at hCo
  have hJ2 := hJ.2.1
  have hJ3 := hJ.2.2
  rw [hJJ] at hJ2 hJ3
  have HJ2 : Hid (∀ i, i < n → J i = f i) := hJ2
  have HMK : Hid (∀ (L : Nat → Int), L 0 = (n : Int) → L 1 = (n : Int) + 1 → Rf.mayF (n + 2) J 2 L = Rf.mayF (n + 2) (ownRow n f) 0 (fun _ => 0) ∧ (Rf.mayF (n + 2) J 2 L = 0 → ∀ i, i < n + 2 → Rf.fillF (n + 2) J 2 L i = ownRow n f i)) := fun L h0 h1 => ⟨Rf.made_may hJ2 h0 h1, Rf.made_fill hJ2 h0 h1⟩
  have HFJ : Hid (∀ i, i < n + 2 → (J i).size ≤ 1048576) := fun i hi => by
    by_cases c : i < n
    · rw [hJ2 i c]; exact hf i c
    · rw [hJ3 i (by omega)]; exact Nat.zero_le _
  have B2 : Hid (Below w.heap.size w w2) := b2
  clear hJ hJJ hS S b1 b12 b2 rm hJ2 hJ3 hr hf
  go_enter Try.func13, Try.ntmps13
  go_wp2_with fail
  rw [← hw1, ← hw2, ← hz1]
  refine hCo.mono ?_
  rintro e w3 ⟨g, c, rfl, own, b3⟩
  obtain ⟨a3, c3, e3, r3, hc3, _⟩ := RowS.of_owns own
  cases e3
  have R3 : Hid (RowS w3 (some ⟨g, 0, none⟩) (n + 2) J) := r3
  have C3 : Hid (n + 2 ≤ c) := hc3
  have B3 : Hid (Below w.heap.size w w3) := below2 B2.out b3
  clear hCo hmk hw1 hw2 own b3 r3 hc3
  have hL : Hid (RowI .i64 (w3.alloc (.cells #[.int .i64 (n : Int), .int .i64 ((n : Int) + 1)] 3)) (some ⟨w3.heap.size, 0, none⟩) 2 (fun j => [(n : Int), (n : Int) + 1].getD j 0)) := RowI.new .i64 w3 [(n : Int), (n : Int) + 1] _ _ rfl
  have hB4 : Hid (Below w3.heap.size w3 (w3.alloc (.cells #[.int .i64 (n : Int), .int .i64 ((n : Int) + 1)] 3))) := (Below.refl _ w3).alloc (Nat.le_refl _) _
  have hFi := Fill_big (n + 2) J (by omega) HFJ.out (some ⟨g, 0, none⟩) c C3.out 2 (fun j => [(n : Int), (n : Int) + 1].getD j 0) (by omega) (some ⟨w3.heap.size, 0, none⟩) 2 (Nat.le_refl _) _ (R3.out.below hB4.out) hL.out
  obtain ⟨M1, M2⟩ := HMK.out (fun j => [(n : Int), (n : Int) + 1].getD j 0) rfl rfl
  unfold FillSays at hFi
  rw [M1] at hFi M2
  obtain ⟨mv, hmv⟩ : ∃ mv, Rf.mayF (n + 2) (ownRow n f) 0 (fun _ => 0) = mv := ⟨_, rfl⟩
  have HMV : Hid (Rf.mayF (n + 2) (ownRow n f) 0 (fun _ => 0) = mv) := hmv
  rw [hmv] at hFi M2
  have HM2 : Hid (mv = 0 → ∀ i, i < n + 2 → Rf.fillF (n + 2) J 2 (fun j => [(n : Int), (n : Int) + 1].getD j 0) i = ownRow n f i) := M2
  obtain ⟨kv, hkv⟩ : ∃ kv, Rf.kF (n + 2) mv = kv := ⟨_, rfl⟩
  have HKV : Hid (Rf.kF (n + 2) mv = kv) := hkv
  rw [hkv] at hFi
  obtain ⟨FF, hFF⟩ : ∃ FF, Rf.fillF (n + 2) J 2 (fun j => [(n : Int), (n : Int) + 1].getD j 0) = FF := ⟨_, rfl⟩
  rw [hFF] at hFi HM2
  obtain ⟨n2, hn2⟩ : ∃ n2, n + 2 = n2 := ⟨_, rfl⟩
  rw [hn2] at hFi
  rw [hn2]
  have HN2 : Hid (n + 2 = n2) := hn2
  clear hmv hkv M1 M2 hFF hn2
  go_wp2_with fail
  refine hFi.mono ?_
  rintro e w5 ⟨⟨g5, c5, rfl, r5, hc5⟩, b5⟩
  have R5 : Hid (RowS w5 g5 kv FF) := r5
  have C5 : Hid (kv ≤ c5) := hc5
  have B5 : Hid (Below w.heap.size w w5) := below2 (below2 B3.out hB4.out) b5
  clear hFi r5 hc5 b5
  go_wp2
  go_ret2
  refine ⟨?_, B5.out⟩
  unfold MakeSays
  rw [HMV.out, HKV.out]
  refine ⟨g5, c5, rfl, ?_, C5.out⟩
  by_cases h0 : mv = 0
  · refine R5.out.mono (Nat.le_refl _) fun j hj => ?_
    refine HM2.out h0 j ?_
    have := Rf.kF_le (n + 2) mv
    rw [HKV.out] at this; omega
  · have : kv = 0 := by rw [← HKV.out]; exact Rf.kF_no h0
    rw [this]; exact RowS.nil _ _ _
end Go.Proofs.Ytjephdeolifbpaa
