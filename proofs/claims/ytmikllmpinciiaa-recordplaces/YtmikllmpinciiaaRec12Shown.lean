/- The walk of the statements' own shown. -/
import Derived.Test.YtmikllmpinciiaaRecPlain
namespace Go.Proofs.Ytmikllmpinciiaa
open Go.RowKit

namespace Rc
theorem head_magic {seq : Nat} {row : Int} {n : Nat} {f : Nat → Prt} (h0 : seq < 18446744073709551616) (h : mayB row n f = true) : (headS seq row n f (sumF n f)).extract 0 4 = magicB := by
  obtain ⟨_, hp⟩ := (may_iff _ _ _).1 h
  obtain ⟨r0, r1, n1, n40⟩ := (few_iff _ _).1 ((places_iff _ _ _).1 hp).1
  have e := head_first (f := f) h0 (show row < 65536 by omega) (show n < 256 by omega) (sumF_lt n f) n40
  have hs := (headS_may h0 h).1
  rw [← e]
  unfold Crc.headB
  rw [hs]
  apply Pg.eq_of_list
  rw [Pg.extract_list, Pg.extract_list, Pg.extract_list]
  simp [List.take_take]
/-- the two texts of shown -/
def abT : Nat → ByteArray := fun j => [⟨#[97]⟩, ⟨#[98]⟩].getD j ⟨#[]⟩
end Rc
theorem ab_row (w : World) (t : TypeId) : RowS (w.alloc (.cells #[.string ⟨#[97]⟩, .string ⟨#[98]⟩] t)) (some ⟨w.heap.size, 0, none⟩) 2 Rc.abT := RowS.new w 2 Rc.abT _ t rfl

set_option maxRecDepth 100000 in
set_option maxHeartbeats 4000000 in
theorem shown12_any (X : RecSays) (w : World) : Calls Try.prog 6 #[] w fun e w' => e = .returned (.bool true) ∧ Below w.heap.size w w' := by
  have hsome := fun (W : World) (a : Option Addr) (hr : RowS W a 2 Rc.abT) => some12_any 5 3 0 a 2 2 Rc.abT W (by decide) (by decide) (by decide) hr (by intro j hj; rcases (by omega : j = 0 ∨ j = 1) with rfl | rfl <;> decide)
  have hM : Rc.mayB ((3 : Nat) : Int) (Rc.someN 2) (Rc.someP 0 Rc.abT) = true := Rc.someP_may (by decide) (by decide)
  have hE := fun (W : World) (a : Option Addr) (c : Nat) (hr : PartsR W a (Rc.someN 2) (Rc.someP 0 Rc.abT)) => X.enc 5 ((3 : Nat) : Int) a (Rc.someN 2) c (Rc.someP 0 Rc.abT) W (by decide) (Rc.someP_in (by decide)) (Rc.someP_light _ _ _) hr
  obtain ⟨x1, x2, x3⟩ := Rc.enc_may (seq := 5) hM
  have hs := (Rc.headS_may (seq := 5) (by decide) hM).1
  have hm := Rc.head_magic (seq := 5) (by decide) hM
  unfold EncOwn at hE
  rw [x1, x2, x3] at hE
  obtain ⟨h, hh⟩ : ∃ h, h = Rc.headS 5 ((3 : Nat) : Int) (Rc.someN 2) (Rc.someP 0 Rc.abT) (Rc.sumF (Rc.someN 2) (Rc.someP 0 Rc.abT)) := ⟨_, rfl⟩
  rw [← hh] at hE hs hm
  have hsi : (h.size : Int) = 64 := by omega
  have hmt : ((h.extract 0 4).toList == [82, 86, 84, 74]) = true := by have e := Pg.tx_eq (h.extract 0 4) Rc.magicB; rw [decide_eq_true hm, Rc.magic_list] at e; exact e
  have n2 : Rc.someN 2 = 2 := rfl
  rw [n2] at hE hsome
  have ht := fun (W : World) (a a' : Option Addr) (c c' : Nat) (h1 : RowS W a 2 (fun j => (Rc.someP 0 Rc.abT j).data)) (h2 : RowS W a' 2 (fun j => [Rc.fillB ⟨#[97]⟩, Rc.fillB ⟨#[98]⟩].getD j ⟨#[]⟩)) => texts12_any a a' 2 2 c c' _ _ W (by decide) h1 h2
  have hsm : Rc.sameT (fun j => (Rc.someP 0 Rc.abT j).data) (fun j => [Rc.fillB ⟨#[97]⟩, Rc.fillB ⟨#[98]⟩].getD j ⟨#[]⟩) 2 = true := (Rc.sameT_iff _ _ _).2 (by intro j hj; rcases (by omega : j = 0 ∨ j = 1) with rfl | rfl <;> rfl)
  rw [hsm] at ht
  have hfa := fun W => full12_any ⟨#[97]⟩ (by decide) W
  have hfb := fun W => full12_any ⟨#[98]⟩ (by decide) W
  obtain ⟨fa, efa⟩ : ∃ fa, fa = Rc.fillB ⟨#[97]⟩ := ⟨_, rfl⟩
  obtain ⟨fb, efb⟩ : ∃ fb, fb = Rc.fillB ⟨#[98]⟩ := ⟨_, rfl⟩
  rw [← efa, ← efb] at ht
  rw [← efa] at hfa
  rw [← efb] at hfb
  have HE : Hid _ := hE
  have HT : Hid _ := ht
  have HSo : Hid _ := hsome
  clear hE ht hsome hM x1 x2 x3 hs hm hh hsm efa efb n2
  go_enter Try.func6, Try.ntmps6
  go_wp2_with fail
  refine (HSo.out _ _ (ab_row _ _)).mono ?_
  rintro e w1 ⟨a1, c1, rfl, hp1, _, _, hb1⟩
  have HB1 : Hid (Below w.heap.size w w1) := box_below hb1
  have HP1 : Hid (PartsR w1 a1 2 (Rc.someP 0 Rc.abT)) := hp1
  clear hp1 hb1
  go_wp2_with fail
  refine (HE.out _ _ _ HP1.out).mono ?_
  rintro e w2 ⟨v, rfl, hown, hb2⟩
  obtain ⟨a2, c2, rfl, hr2, _, _⟩ := RowS.of_owns hown
  have HB2 : Hid (Below w.heap.size w w2) := below2 HB1.out hb2
  have HR2 : Hid (RowS w2 a2 2 (fun j => (Rc.someP 0 Rc.abT j).data)) := hr2
  clear hown hb2 hr2
  go_wp2_with fail
  refine (hfa _).mono ?_
  rintro e w3 ⟨rfl, rfl⟩
  go_wp2_with fail
  refine (hfb _).mono ?_
  rintro e w3 ⟨rfl, rfl⟩
  go_wp2_with fail
  refine (HT.out _ _ _ _ _ (HR2.out.below ((Below.refl _ _).alloc (Nat.le_refl _) _)) (RowS.new _ 2 _ _ _ rfl)).mono ?_
  rintro e w4 ⟨rfl, hb4⟩
  have HB4 : Hid (Below w.heap.size w w4) := HB2.out.trans (((Below.refl _ _).alloc (Nat.le_refl _) _).trans (hb4.mono (by simp)) |>.mono HB2.out.size)
  clear hb4
  go_wp2
  go_ret
  exact ⟨rfl, HB4.out⟩
end Go.Proofs.Ytmikllmpinciiaa
