/- The walks of syndrome.Sum and syndrome.Good. -/
import Derived.Test.YtjephdeolifbpaaSynQ
namespace Go.Proofs.Ytjephdeolifbpaa
open Go.RowKit

/-- what Sum says of m data columns, and the two behind them -/
def sumP (m : Nat) (f : Nat → ByteArray) : ByteArray := Gfm.xorB (Gfm.addF m f) (f m)
def sumQ (m : Nat) (f : Nat → ByteArray) : ByteArray := Gfm.xorB (Gfm.addF m (Gfm.qT f)) (f (m + 1))
def goodF (m : Nat) (f : Nat → ByteArray) : Bool := Gfm.zeroS (sumP m f) && Gfm.zeroS (sumQ m f)
theorem Fits.sumP {B m : Nat} {f : Nat → ByteArray} (h : Fits B (m + 2) f) : (sumP m f).size ≤ B := by
  have h1 := (h.mono (m := m) (by omega)).add
  have h2 := h m (by omega)
  unfold Go.Proofs.Ytjephdeolifbpaa.sumP; rw [Gfm.xorB_size]; omega
theorem Fits.sumQ {B m : Nat} {f : Nat → ByteArray} (h : Fits B (m + 2) f) : (sumQ m f).size ≤ B := by
  have h1 := (h.mono (m := m) (by omega)).qT.add
  have h2 := h (m + 1) (by omega)
  unfold Go.Proofs.Ytjephdeolifbpaa.sumQ; rw [Gfm.xorB_size]; omega

set_option maxHeartbeats 1000000 in
theorem Sum_few (n : Nat) (hn : n < 2) (a : Option Addr) (cap : Nat) (w : World) :
    Calls Try.prog 40 #[.slice a n cap] w fun e w' => e = .returned (.tuple #[.string ByteArray.empty, .string ByteArray.empty]) ∧ w' = w := by
  have h : (n : Int) - 2 < 0 := by omega
  go_enter Try.func40, Try.ntmps40
  go_wp2
  go_ret2
  exact ⟨rfl, rfl⟩

set_option maxRecDepth 100000 in
set_option maxHeartbeats 2000000 in
theorem Sum_some (m : Nat) (f : Nat → ByteArray) (hm : m + 2 ≤ 1048576) (hf : Fits 1048576 (m + 2) f) (a : Option Addr) (cap : Nat) (hcap : m + 2 ≤ cap) (w : World) (hr : RowS w a (m + 2) f) :
    Calls Try.prog 40 #[.slice a (m + 2) cap] w fun e w' => e = .returned (.tuple #[.string (sumP m f), .string (sumQ m f)]) ∧ Below w.heap.size w w' := by
  obtain ⟨b, o, rfl, _⟩ := hr 0 (by omega)
  obtain ⟨n, hn⟩ : ∃ n, n = m + 2 := ⟨_, rfl⟩
  have hc1 := hr.at (j := m) (by omega)
  have hc2 := hr.at (j := m + 1) (by omega)
  have h1 := hf m (by omega)
  have h2 := hf (m + 1) (by omega)
  have HF : Hid (Fits 1048576 m f) := hf.mono (by omega)
  have HR : Hid (RowS w (some ⟨b, o, none⟩) m f) := hr.mono (by omega) fun _ _ => rfl
  have h3 := (hf.mono (m := m) (by omega)).add
  have h4 := (hf.mono (m := m) (by omega)).qT.add
  have HP : Hid (sumP m f = Gfm.xorB (Gfm.addF m f) (f m)) := rfl
  have HQ : Hid (sumQ m f = Gfm.xorB (Gfm.addF m (Gfm.qT f)) (f (m + 1))) := rfl
  obtain ⟨x, hx⟩ : ∃ x, f m = x := ⟨_, rfl⟩
  obtain ⟨y, hy⟩ : ∃ y, f (m + 1) = y := ⟨_, rfl⟩
  rw [hx] at hc1 h1 HP
  rw [hy] at hc2 h2 HQ
  rw [← hn]
  have e1 : (n : Int) - 2 = (m : Int) := by omega
  have e2 : ¬ (m : Int) < 0 := by omega
  have e3 : m < n := by omega
  have e4 : m + 1 < n := by omega
  have e5 : n ≤ 1048576 := by omega
  have e6 : m ≤ cap := by omega
  have e7 : ¬ cap = 0 := by omega
  clear hr hf hn hx hy
  go_enter Try.func40, Try.ntmps40
  go_wp2
  go_region
  go_wp2_with fail
  refine (P_any m f (by omega) HF.out _ _ _ HR.out.drew).mono ?_
  rintro e w1 ⟨rfl, hb1⟩
  have hb1 : Below w.heap.size w w1 := (Below.refl _ w).drew.trans hb1
  go_wp2_with fail
  refine (added_two (Gfm.addF m f) x h3 h1 _ _).mono ?_
  rintro e w2 ⟨rfl, hb2⟩
  have hB2 : Below w.heap.size w w2 := below2 hb1 hb2
  go_wp2_with fail
  refine (Q_any m f (by omega) HF.out _ _ _ (HR.out.below hB2)).mono ?_
  rintro e w3 ⟨rfl, hb3⟩
  go_wp2_with fail
  refine (added_two (Gfm.addF m (Gfm.qT f)) y h4 h2 _ _).mono ?_
  rintro e w4 ⟨rfl, hb4⟩
  have HB : Hid (Below w.heap.size w w4) := below2 (below2 hB2 hb3) hb4
  clear hb1 hb2 hb3 hb4 hB2
  go_wp2
  go_ret2
  exact ⟨ret_two (by rw [HP.out]; rfl) (by rw [HQ.out]; rfl), HB.out⟩


end Go.Proofs.Ytjephdeolifbpaa
