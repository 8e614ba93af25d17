/- The walks of the document's own Sum and Good. -/
import Derived.Test.YtjephdeolifbpaaRef05
namespace Go.Proofs.Ytjephdeolifbpaa
open Go.RowKit

theorem sees_below {w W' : World} {p q : Addr} {u v : Value} (h : W'.cell? p = some u ∧ W'.cell? q = some v ∧ Below w.heap.size w W') : Below w.heap.size w W' := h.2.2

set_option maxHeartbeats 1000000 in
theorem refSum_few (n : Nat) (hn : n < 2) (a : Option Addr) (cap : Nat) (w : World) :
    Calls Try.prog 32 #[.slice a n cap] w fun e w' => e = .returned (.tuple #[.string ByteArray.empty, .string ByteArray.empty]) ∧ w' = w := by
  have h : (n : Int) - 2 < 0 := by omega
  go_enter Try.func32, Try.ntmps32
  go_wp2
  go_ret2
  exact ⟨rfl, rfl⟩

set_option maxRecDepth 100000 in
set_option maxHeartbeats 4000000 in
theorem refSum_some (m : Nat) (f : Nat → ByteArray) (hm : m + 2 ≤ 1048576) (hf : Fits 1048576 (m + 2) f) (a : Option Addr) (cap : Nat) (hcap : m + 2 ≤ cap) (w : World) (hr : RowS w a (m + 2) f) :
    Calls Try.prog 32 #[.slice a (m + 2) cap] w fun e w' => e = .returned (.tuple #[.string (sumP m f), .string (sumQ m f)]) ∧ Below w.heap.size w w' := by
  obtain ⟨b, o, rfl, _⟩ := hr 0 (by omega)
  obtain ⟨n, hn⟩ : ∃ n, n = m + 2 := ⟨_, rfl⟩
  have hc1 := hr.at (j := m) (by omega)
  have hc2 := hr.at (j := m + 1) (by omega)
  have h1 := hf m (by omega)
  have h2 := hf (m + 1) (by omega)
  have HF : Hid (Fits 1048576 m f) := hf.mono (by omega)
  have HR : Hid (RowS w (some ⟨b, o, none⟩) m f) := hr.mono (by omega) fun _ _ => rfl
  have h3 := (hf.mono (m := m) (by omega)).add
  have h4 := (hf.mono (m := m) (by omega)).qT.add
  have HP : Hid (sumP m f = Gfm.xorB (Gfm.addF m f) (f m)) := rfl
  have HQ : Hid (sumQ m f = Gfm.xorB (Gfm.addF m (Gfm.qT f)) (f (m + 1))) := rfl
  have hm2 : m ≤ 1048576 := by omega
  have hPc := fun (W : World) (hW : Below w.heap.size w W) => refP_any m f hm2 HF.out _ cap W (HR.out.below hW)
  have hQc := fun (W : World) (hW : Below w.heap.size w W) => refQ_any m f hm2 HF.out _ cap W (HR.out.below hW)
  obtain ⟨x, hx⟩ : ∃ x, f m = x := ⟨_, rfl⟩
  obtain ⟨y, hy⟩ : ∃ y, f (m + 1) = y := ⟨_, rfl⟩
  obtain ⟨p, hp⟩ : ∃ p, Gfm.addF m f = p := ⟨_, rfl⟩
  obtain ⟨q, hq⟩ : ∃ q, Gfm.addF m (Gfm.qT f) = q := ⟨_, rfl⟩
  rw [hx] at hc1 h1 HP
  rw [hy] at hc2 h2 HQ
  rw [hp] at h3 HP hPc
  rw [hq] at h4 HQ hQc
  rw [← hn]
  have e1 : (n : Int) - 2 = (m : Int) := by omega
  have e2 : ¬ (m : Int) < 0 := by omega
  have e3 : m < n := by omega
  have e4 : m + 1 < n := by omega
  have e5 : n ≤ 1048576 := by omega
  have e6 : m ≤ cap := by omega
  have e7 : ¬ cap = 0 := by omega
  have e8 : IntKind.i64.wrap ((m : Int) + 1) = (m : Int) + 1 := by rw [IntKind.wrap_i64]; omega
  have e9 : (0 : Int) ≤ (m : Int) + 1 := by omega
  have e10 : (m : Int) + 1 < (n : Int) := by omega
  have e11 : ((m : Int) + 1).toNat = m + 1 := by omega
  have hPs := fun (W : World) (h : W.cell? ⟨b, o + m, none⟩ = some (.string x) ∧ W.cell? ⟨b, o + (m + 1), none⟩ = some (.string y) ∧ Below w.heap.size w W) => hPc W h.2.2
  have hQs := fun (W : World) (h : W.cell? ⟨b, o + m, none⟩ = some (.string x) ∧ W.cell? ⟨b, o + (m + 1), none⟩ = some (.string y) ∧ Below w.heap.size w W) => hQc W h.2.2
  clear hr hf hn hx hy hp hq hPc hQc
  have hS0 : w.cell? ⟨b, o + m, none⟩ = some (.string x) ∧ w.cell? ⟨b, o + (m + 1), none⟩ = some (.string y) ∧ Below w.heap.size w w.drew := ⟨hc1, hc2, (Below.refl _ w).drew⟩
  go_enter Try.func32, Try.ntmps32
  go_wp2
  go_region_held3 (fun W => W.cell? ⟨b, o + m, none⟩ = some (.string x) ∧ W.cell? ⟨b, o + (m + 1), none⟩ = some (.string y) ∧ Below w.heap.size w W) (first | exact hS0 | assumption) (first | (go_at_call 26; refine (hPs _ (by first | exact hS0 | assumption)).mono ?_; rintro e w1 ⟨rfl, hb1⟩; have hs1 := keep_two hb1 (by assumption)) | (go_at_call 27; refine (hQs _ (by first | exact hS0 | assumption)).mono ?_; rintro e w2 ⟨rfl, hb2⟩; have hs2 := keep_two hb2 (by assumption)) | (go_at_call 51; refine (refXor_any _ _ (by assumption) (by assumption) _).mono ?_; rintro e w3 ⟨rfl, hb3⟩; have hs3 := keep_two hb3 (by assumption)))
  all_goals
    go_wp2
    go_ret2
    refine ⟨ret_two (by rw [HP.out]; rfl) (by rw [HQ.out]; rfl), sees_below (p := ⟨b, o + m, none⟩) (q := ⟨b, o + (m + 1), none⟩) (u := .string x) (v := .string y) ?_⟩
    assumption

set_option maxRecDepth 100000 in
set_option maxHeartbeats 1000000 in
theorem refGood_few (n : Nat) (hn : n < 2) (a : Option Addr) (cap : Nat) (w : World) :
    Calls Try.prog 19 #[.slice a n cap] w fun e w' => e = .returned (.bool false) ∧ w' = w := by
  have h : ¬ (2 : Int) ≤ (n : Int) := by omega
  go_enter Try.func19, Try.ntmps19
  go_wp2_with fail
  refine (refSum_few n hn a cap _).mono ?_
  rintro e w' ⟨rfl, rfl⟩
  go_wp2
  go_ret
  exact ⟨rfl, rfl⟩

set_option maxRecDepth 100000 in
set_option maxHeartbeats 2000000 in
theorem refGood_some (m : Nat) (f : Nat → ByteArray) (hm : m + 2 ≤ 1048576) (hf : Fits 1048576 (m + 2) f) (a : Option Addr) (cap : Nat) (hcap : m + 2 ≤ cap) (w : World) (hr : RowS w a (m + 2) f) :
    Calls Try.prog 19 #[.slice a (m + 2) cap] w fun e w' => e = .returned (.bool (goodF m f)) ∧ Below w.heap.size w w' := by
  have hs := refSum_some m f hm hf a cap hcap w hr
  have h1 := hf.sumP
  have h2 := hf.sumQ
  have HG : Hid (goodF m f = (Gfm.zeroS (sumP m f) && Gfm.zeroS (sumQ m f))) := rfl
  obtain ⟨n, hn⟩ : ∃ n, n = m + 2 := ⟨_, rfl⟩
  rw [← hn] at hs ⊢
  have e1 : (2 : Int) ≤ (n : Int) := by omega
  obtain ⟨x, hx⟩ : ∃ x, sumP m f = x := ⟨_, rfl⟩
  obtain ⟨y, hy⟩ : ∃ y, sumQ m f = y := ⟨_, rfl⟩
  rw [hx] at h1 HG hs
  rw [hy] at h2 HG hs
  clear hr hf hn hx hy hm
  cases hz : Gfm.zeroS x with
  | false =>
    rw [hz] at HG
    go_enter Try.func19, Try.ntmps19
    go_wp2_with fail
    refine hs.mono ?_
    rintro e w1 ⟨rfl, hb1⟩
    go_wp2_with fail
    refine (refZero_any x h1 _).mono ?_
    rw [hz]
    rintro e w2 ⟨rfl, hw2⟩
    subst w2
    go_wp2
    go_ret
    exact ⟨ret_bool (by rw [HG.out]; rfl), hb1⟩
  | true =>
    rw [hz] at HG
    go_enter Try.func19, Try.ntmps19
    go_wp2_with fail
    refine hs.mono ?_
    rintro e w1 ⟨rfl, hb1⟩
    go_wp2_with fail
    refine (refZero_any x h1 _).mono ?_
    rw [hz]
    rintro e w2 ⟨rfl, hw2⟩
    subst w2
    go_wp2_with fail
    refine (refZero_any y h2 _).mono ?_
    rintro e w2 ⟨rfl, hw2⟩
    subst w2
    go_wp2
    go_ret
    exact ⟨ret_bool (by rw [HG.out]; rfl), hb1⟩
end Go.Proofs.Ytjephdeolifbpaa
