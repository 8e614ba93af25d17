/- The walks of the document's own answers for syndrome. -/
import Derived.Test.YtjephdeolifbpaaSynSum
import Derived.Test.YtjephdeolifbpaaRef01Pow
import Derived.Deep.RegionHeld3
namespace Go.Proofs.Ytjephdeolifbpaa
open Go.RowKit

/-- what two cells hold stays, and what lies below, when a call has written new memory alone -/
theorem keep_two {w W W' : World} {p q : Addr} {u v : Value} (hb : Below W.heap.size W W') (h : W.cell? p = some u ∧ W.cell? q = some v ∧ Below w.heap.size w W) :
    W'.cell? p = some u ∧ W'.cell? q = some v ∧ Below w.heap.size w W' :=
  ⟨(hb.cell (p := p) (World.block_lt_of_cell? W _ h.1)).trans h.1, (hb.cell (p := q) (World.block_lt_of_cell? W _ h.2.1)).trans h.2.1, below2 h.2.2 hb⟩
theorem keep_one {W W' : World} {p : Addr} {u : Value} (hb : Below W.heap.size W W') (h : W.cell? p = some u) : W'.cell? p = some u :=
  (hb.cell (p := p) (World.block_lt_of_cell? W _ h)).trans h

set_option maxHeartbeats 1000000 in
theorem refP_some (n : Nat) (f : Nat → ByteArray) (hn : n ≤ 1048576) (hf : Fits 1048576 n f) (b o cap : Nat) (w : World) (hr : RowS w (some ⟨b, o, none⟩) n f) :
    Calls Try.prog 26 #[.slice (some ⟨b, o, none⟩) n cap] w fun e w' => e = .returned (.string (Gfm.addF n f)) ∧ Below w.heap.size w w' := by
  go_enter Try.func26, Try.ntmps26
  go_wp2
  go_loopw [3, 4] (fun s i wr => ∃ k : Nat, k ≤ n ∧ i = .int .i64 k ∧ s = .string (Gfm.addF k f) ∧ Below w.heap.size w wr) (fun _ i _ => n - (intOf i).toNat)
  case atStart => exact ⟨0, by omega, rfl, rfl, Below.refl _ _⟩
  case round =>
    obtain ⟨k, hk, rfl, rfl, hb⟩ := hrel
    by_cases hkn : k < n
    · have hc := hr.at hkn
      have hc := (hb.cell (p := ⟨b, o + k, none⟩) (World.block_lt_of_cell? w _ hc)).trans hc
      have h1 := hf k hkn
      have h2 := (hf.mono hk).add
      have Hs : Hid (Gfm.addF (k + 1) f = Gfm.xorB (Gfm.addF k f) (f k)) := rfl
      obtain ⟨x, hx⟩ : ∃ x, f k = x := ⟨_, rfl⟩
      obtain ⟨y, hy⟩ : ∃ y, Gfm.addF k f = y := ⟨_, rfl⟩
      rw [hx] at hc h1 Hs
      rw [hy] at h2 Hs
      rw [hy]
      clear hx hy
      go_wp2_with fail
      refine (refXor_any y x h2 h1 _).mono ?_
      rintro e w' ⟨rfl, hb'⟩
      have HB : Hid (Below w.heap.size w w') := hb.trans (hb'.mono hb.size)
      clear hb' hb hc
      go_wp2
      go_roundw
      case rel => exact ⟨k + 1, by omega, by go_num, by rw [Hs.out], HB.out⟩
      case measure => simp [intOf]; omega
    · have hkk : k = n := by omega
      subst hkk
      go_wp2
      go_ret
      exact ⟨rfl, hb⟩
set_option maxHeartbeats 1000000 in
theorem refP_none (f : Nat → ByteArray) (a : Option Addr) (cap : Nat) (w : World) :
    Calls Try.prog 26 #[.slice a 0 cap] w fun e w' => e = .returned (.string (Gfm.addF 0 f)) ∧ Below w.heap.size w w' := by
  go_enter Try.func26, Try.ntmps26
  go_wp2
  go_loopw [3, 4] (fun s i wr => i = .int .i64 0 ∧ s = .string (Gfm.addF 0 f) ∧ Below w.heap.size w wr) (fun _ i _ => 0 - (intOf i).toNat)
  case atStart => exact ⟨rfl, rfl, Below.refl _ _⟩
  case round =>
    obtain ⟨rfl, rfl, hb⟩ := hrel
    go_wp2
    go_ret
    exact ⟨rfl, hb⟩
theorem refP_any (n : Nat) (f : Nat → ByteArray) (hn : n ≤ 1048576) (hf : Fits 1048576 n f) (a : Option Addr) (cap : Nat) (w : World) (hr : RowS w a n f) :
    Calls Try.prog 26 #[.slice a n cap] w fun e w' => e = .returned (.string (Gfm.addF n f)) ∧ Below w.heap.size w w' := by
  rcases hr.place with rfl | ⟨b, o, rfl⟩
  · exact refP_none f a cap w
  · exact refP_some n f hn hf b o cap w hr

set_option maxRecDepth 100000 in
set_option maxHeartbeats 2000000 in
theorem refQ_some (n : Nat) (f : Nat → ByteArray) (hn : n ≤ 1048576) (hf : Fits 1048576 n f) (b o cap : Nat) (w : World) (hr : RowS w (some ⟨b, o, none⟩) n f) :
    Calls Try.prog 27 #[.slice (some ⟨b, o, none⟩) n cap] w fun e w' => e = .returned (.string (Gfm.addF n (Gfm.qT f))) ∧ Below w.heap.size w w' := by
  go_enter Try.func27, Try.ntmps27
  go_wp2
  go_loopw [3, 4] (fun s i wr => ∃ k : Nat, k ≤ n ∧ i = .int .i64 k ∧ s = .string (Gfm.addF k (Gfm.qT f)) ∧ Below w.heap.size w wr) (fun _ i _ => n - (intOf i).toNat)
  case atStart => exact ⟨0, by omega, rfl, rfl, Below.refl _ _⟩
  case round =>
    obtain ⟨k, hk, rfl, rfl, hb⟩ := hrel
    by_cases hkn : k < n
    · have hc := hr.at hkn
      have hc := (hb.cell (p := ⟨b, o + k, none⟩) (World.block_lt_of_cell? w _ hc)).trans hc
      have h1 := hf k hkn
      have h2 := (hf.mono hk).qT.add
      have hpE : Gfm.powI 2 (k : Int) < 256 := Gfm.powI_lt _ _
      have Hs : Hid (Gfm.addF (k + 1) (Gfm.qT f) = Gfm.xorB (Gfm.addF k (Gfm.qT f)) (Gfm.timesB (f k) (Gfm.powI 2 (k : Int)))) := rfl
      obtain ⟨x, hx⟩ : ∃ x, f k = x := ⟨_, rfl⟩
      obtain ⟨y, hy⟩ : ∃ y, Gfm.addF k (Gfm.qT f) = y := ⟨_, rfl⟩
      obtain ⟨z, hz⟩ : ∃ z, Gfm.powI 2 (k : Int) = z := ⟨_, rfl⟩
      have hE := refExp_any (k : Int)
      rw [hx] at hc h1 Hs
      rw [hy] at h2 Hs
      rw [hz] at hpE Hs hE
      rw [hy]
      have h3 : (Gfm.timesB x z).size ≤ 1048576 := by rw [Gfm.timesB_size]; omega
      clear hx hy hz
      go_wp2
      go_region_held3 (fun W => W.cell? ⟨b, o + k, none⟩ = some (.string x)) (first | exact hc | assumption) (first | (go_at_call 49; refine (hE _).mono ?_; rintro e w1 ⟨rfl, rfl⟩) | (go_at_call 52; refine (refTimes_any x z h1 hpE _).mono ?_; rintro e w2 ⟨rfl, hb2⟩; have hc2 := keep_one hb2 (by assumption)) | (go_at_call 51; refine (refXor_any y (Gfm.timesB x z) h2 h3 _).mono ?_; rintro e w3 ⟨rfl, hb3⟩; have hc3 := keep_one hb3 (by assumption)))
      go_wp2
      go_roundw
      case rel => exact ⟨k + 1, by omega, by go_num, by rw [Hs.out], hb.trans ((below2 ((Below.refl _ _).drew.trans hb2) hb3).mono hb.size)⟩
      case measure => simp [intOf]; omega
    · have hkk : k = n := by omega
      subst hkk
      go_wp2
      go_ret
      exact ⟨rfl, hb⟩
set_option maxHeartbeats 1000000 in
theorem refQ_none (f : Nat → ByteArray) (a : Option Addr) (cap : Nat) (w : World) :
    Calls Try.prog 27 #[.slice a 0 cap] w fun e w' => e = .returned (.string (Gfm.addF 0 f)) ∧ Below w.heap.size w w' := by
  go_enter Try.func27, Try.ntmps27
  go_wp2
  go_loopw [3, 4] (fun s i wr => i = .int .i64 0 ∧ s = .string (Gfm.addF 0 f) ∧ Below w.heap.size w wr) (fun _ i _ => 0 - (intOf i).toNat)
  case atStart => exact ⟨rfl, rfl, Below.refl _ _⟩
  case round =>
    obtain ⟨rfl, rfl, hb⟩ := hrel
    go_wp2
    go_ret
    exact ⟨rfl, hb⟩
theorem refQ_any (n : Nat) (f : Nat → ByteArray) (hn : n ≤ 1048576) (hf : Fits 1048576 n f) (a : Option Addr) (cap : Nat) (w : World) (hr : RowS w a n f) :
    Calls Try.prog 27 #[.slice a n cap] w fun e w' => e = .returned (.string (Gfm.addF n (Gfm.qT f))) ∧ Below w.heap.size w w' := by
  rcases hr.place with rfl | ⟨b, o, rfl⟩
  · exact refQ_none (Gfm.qT f) a cap w
  · exact refQ_some n f hn hf b o cap w hr

set_option maxHeartbeats 1000000 in
theorem refZero_any (s : ByteArray) (hs : s.size ≤ 1048576) (w : World) :
    Calls Try.prog 33 #[.string s] w fun e w' => e = .returned (.bool (Gfm.zeroS s)) ∧ w' = w := by
  go_enter Try.func33, Try.ntmps33
  go_wp2
  go_loopw [3] (fun i wr => ∃ k : Nat, k ≤ s.size ∧ i = .int .i64 k ∧ (∀ j (hj : j < s.size), j < k → s[j] = 0) ∧ wr = w) (fun i _ => s.size - (intOf i).toNat)
  case atStart => exact ⟨0, by omega, rfl, fun _ _ h => absurd h (Nat.not_lt_zero _), rfl⟩
  case round =>
    obtain ⟨k, hk, rfl, hz, rfl⟩ := hrel
    have Hz : Hid (∀ j (hj : j < s.size), j < k → s[j] = 0) := hz
    clear hz
    by_cases hkn : k < s.size
    · by_cases h0 : s[k] = 0
      · have hne : (((s[k]).toNat : Int) != 0) = false := by rw [h0]; rfl
        have H0 : Hid (s[k] = 0) := h0
        clear h0
        go_wp2
        go_roundw
        case rel =>
          refine ⟨k + 1, by omega, by go_num, fun j hj hjk => ?_, trivial⟩
          by_cases e : j = k
          · subst e; exact H0.out
          · exact Hz.out j hj (by omega)
        case measure => simp [intOf]; omega
      · have hne : (((s[k]).toNat : Int) != 0) = true := by
          rw [bne_iff_ne]; intro e; apply h0; apply UInt8.toNat_inj.1; show _ = 0; omega
        have E : Hid (Gfm.zeroS s = false) := Gfm.zeroS_at hkn h0
        clear h0
        go_wp2
        go_ret
        exact ⟨ret_bool E.out.symm, rfl⟩
    · have E : Hid (Gfm.zeroS s = true) := Gfm.zeroS_up fun j hj => Hz.out j hj (by omega)
      go_wp2
      go_ret
      exact ⟨ret_bool E.out.symm, rfl⟩
end Go.Proofs.Ytjephdeolifbpaa
