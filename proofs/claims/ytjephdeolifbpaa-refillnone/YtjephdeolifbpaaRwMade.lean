/- A row whose P and Q are lost is made of its data: what the document's own Make says. Nothing of the program stands here. -/
import Derived.Test.YtjephdeolifbpaaRfRows
namespace Go.Proofs.Ytjephdeolifbpaa.Rf
open Gfm Go.RowKit
theorem szO_congr {f g : Nat → ByteArray} {ln ln' : Nat} {L L' : Nat → Int} {n : Nat} (h : ∀ i, i < n → (f i).size = (g i).size ∧ hasF ln L (i : Int) = hasF ln' L' (i : Int)) : szO f ln L n = szO g ln' L' n := by
  induction n with
  | zero => rfl
  | succ n ih =>
    have h1 := ih fun i hi => h i (by omega)
    obtain ⟨h2, h3⟩ := h n (by omega)
    simp only [szO, h1, h2, h3]
variable {n : Nat} {f F : Nat → ByteArray} {L : Nat → Int}
theorem made_size (hn : 2 ≤ n) (hF : ∀ i, i < n → F i = f i) (h0 : L 0 = (n : Int)) (h1 : L 1 = (n : Int) + 1) : szF F 2 L (n + 2) = szF (ownRow n f) 0 (fun _ => 0) (n + 2) := by
  have hin : ∀ i : Nat, i < n → hasF 2 L (i : Int) = false := fun i hi => hasF_no fun j hj => by
    have : j = 0 ∨ j = 1 := by omega
    rcases this with rfl | rfl
    · rw [h0]; omega
    · rw [h1]; omega
  have e : szO F 2 L n = szO (ownRow n f) 0 (fun _ => 0) n := szO_congr fun i hi => ⟨by rw [hF i hi, ownRow_data n f hi], by rw [hin i hi]; rfl⟩
  have l0 : hasF 2 L ((n : Nat) : Int) = true := hasF_yes (i := 0) (by omega) h0
  have l1 : hasF 2 L (((n + 1 : Nat)) : Int) = true := hasF_yes (i := 1) (by omega) (by rw [h1]; omega)
  unfold szF
  cases e2 : szO (ownRow n f) 0 (fun _ => 0) n with
  | none =>
    rw [e2] at e
    rw [szO_stays e 2, szO_stays e2 2]
  | some s =>
    rw [e2] at e
    rw [szO_lost (szO_lost e l0) l1]
    obtain ⟨ha, _⟩ := szO_all e2
    have hd : ∀ i, i < n → ((f i).size : Int) = s := fun i hi => by have := ha i hi rfl; rw [ownRow_data n f hi] at this; exact this
    have hs0 := hd 0 (by omega)
    obtain ⟨t, ht⟩ := Int.eq_ofNat_of_zero_le (show 0 ≤ s by omega)
    have hz : ∀ i, i < n + 2 → (ownRow n f i).size = t := fun i hi => own_size (by omega) (fun i hi => by have := hd i hi; omega) hi
    have s1 := szO_next e2 (show hasF 0 (fun _ => 0) ((n : Nat) : Int) = false from rfl) (by rw [hz n (by omega), ht]; omega)
    have s2 := szO_next s1 (show hasF 0 (fun _ => 0) (((n + 1 : Nat)) : Int) = false from rfl) (by rw [hz n (by omega), hz (n + 1) (by omega)]; omega)
    rw [s2, hz (n + 1) (by omega), ht]
theorem made_may (hF : ∀ i, i < n → F i = f i) (h0 : L 0 = (n : Int)) (h1 : L 1 = (n : Int) + 1) : mayF (n + 2) F 2 L = mayF (n + 2) (ownRow n f) 0 (fun _ => 0) := by
  by_cases c : n + 2 < 4 ∨ 10 < n + 2
  · rw [mayF_cols c, mayF_cols c]
  · have hL : Lost n 2 L := Lost.pair (a := n) (b := n + 1) (by omega) (by omega) (by omega) (by omega) L h0 (by rw [h1]; omega)
    have k1 : okL (n + 2) 2 L = true := okL_of fun i hi => hL.ok i hi
    have k0 : okL (n + 2) 0 (fun _ => 0) = true := okL_of fun i hi => absurd hi (Nat.not_lt_zero _)
    have hz := made_size (by omega) hF h0 h1
    by_cases c2 : szF F 2 L (n + 2) < 0 ∨ 4096 < szF F 2 L (n + 2)
    · rw [mayF_size c k1 ⟨by omega, c2⟩, mayF_size c k0 ⟨by omega, by rw [← hz]; exact c2⟩]
    · rw [mayF_ok c k1 (fun h => c2 h.2) (by omega), mayF_ok c k0 (fun h => c2 (by rw [hz]; exact h.2)) (by omega)]
theorem made_fill (hF : ∀ i, i < n → F i = f i) (h0 : L 0 = (n : Int)) (h1 : L 1 = (n : Int) + 1) (h : mayF (n + 2) F 2 L = 0) : ∀ i, i < n + 2 → fillF (n + 2) F 2 L i = ownRow n f i := by
  obtain ⟨a, b, _, hok, s, _, _, hs⟩ := mayF_tells h
  have hL : Lost n 2 L := Lost.pair (a := n) (b := n + 1) (by omega) (by omega) (by omega) (by omega) L h0 (by rw [h1]; omega)
  have hin : ∀ i : Nat, i < n → hasF 2 L (i : Int) = false := fun i hi => hasF_no fun j hj => by
    have : j = 0 ∨ j = 1 := by omega
    rcases this with rfl | rfl
    · rw [h0]; omega
    · rw [h1]; omega
  have hd : ∀ i, i < n → (f i).size = s := fun i hi => by rw [← hF i hi]; exact hs i (by omega) (hin i hi)
  refine fillF_good hL (by omega) (fun i hi => own_size (by omega) hd hi) (fun i hi hk => ?_) fun t => own_bytes n f t
  by_cases c : i < n
  · rw [hF i c, ownRow_data n f c]
  · exfalso
    have : i = n ∨ i = n + 1 := by omega
    rcases this with rfl | rfl
    · rw [hasF_yes (i := 0) (by omega) h0] at hk; cases hk
    · rw [hasF_yes (i := 1) (by omega) (by rw [h1]; omega)] at hk; cases hk
end Go.Proofs.Ytjephdeolifbpaa.Rf
