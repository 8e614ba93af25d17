/- P and Q as columns turn, one by one. -/
import Derived.Test.YtekpamadimachaaSynMath
namespace Go.Proofs.Ytekpamadimachaa.Gfm
/-- the columns when those from j on, below N, have turned -/
def nowF (N j : Nat) (f g : Nat → ByteArray) (t : Nat) : ByteArray := if j ≤ t ∧ t < N then g t else f t
theorem nowF_top (N : Nat) (f g : Nat → ByteArray) : nowF N N f g = f := by
  funext t; unfold nowF; rw [if_neg (by omega)]
theorem nowF_low (N j : Nat) (f g : Nat → ByteArray) {k : Nat} (h : k < j) : nowF N j f g k = f k := by
  unfold nowF; rw [if_neg (by omega)]
theorem nowF_step (N k : Nat) (f g : Nat → ByteArray) (h : k < N) : upd (nowF N (k + 1) f g) k (g k) = nowF N k f g := by
  funext t
  unfold upd nowF
  by_cases e : t = k
  · subst e; rw [if_pos rfl, if_pos ⟨Nat.le_refl _, h⟩]
  · rw [if_neg e]
    by_cases h2 : k + 1 ≤ t ∧ t < N
    · rw [if_pos h2, if_pos ⟨by omega, h2.2⟩]
    · rw [if_neg h2, if_neg (by omega)]
/-- p is what P of the columns F is, but for bytes 0 at its end -/
def SumsP (n : Nat) (F : Nat → ByteArray) (p : ByteArray) : Prop := ∀ b, byt p b = xorN n fun t => byt (F t) b
def SumsQ (n : Nat) (F : Nat → ByteArray) (q : ByteArray) : Prop := ∀ b, byt q b = xorN n fun t => mulU (byt (F t) b) (pE t)
theorem SumsP.start (n : Nat) (F : Nat → ByteArray) : SumsP n F (addF n F) := fun b => byt_addF n F b
theorem SumsQ.start (n : Nat) (F : Nat → ByteArray) : SumsQ n F (addF n (qT F)) := fun b => byt_addQ n F b
theorem SumsP.step {n k : Nat} {F : Nat → ByteArray} {p x y : ByteArray} (h : SumsP n F p) (hk : k < n) (hx : F k = x) : SumsP n (upd F k y) (xorB p (xorB x y)) := fun b => by
  rw [byt_xor, byt_xor, h b, xorN_set hk (fun t => byt (F t) b) (fun t => byt (upd F k y t) b) fun i _ hne => by show byt (upd F k y i) b = _; rw [upd_other _ _ hne]]
  show _ = (xorN n fun t => byt (F t) b) ^^^ (byt (F k) b ^^^ byt (upd F k y k) b)
  rw [upd_same, hx]
theorem SumsQ.step {n k : Nat} {F : Nat → ByteArray} {q x y : ByteArray} (h : SumsQ n F q) (hk : k < n) (hx : F k = x) : SumsQ n (upd F k y) (xorB q (timesB (xorB x y) (pE k))) := fun b => by
  rw [byt_xor, byt_times, byt_xor, mulU_xor, h b, xorN_set hk (fun t => mulU (byt (F t) b) (pE t)) (fun t => mulU (byt (upd F k y t) b) (pE t)) fun i _ hne => by show mulU (byt (upd F k y i) b) _ = _; rw [upd_other _ _ hne]]
  show _ = (xorN n fun t => mulU (byt (F t) b) (pE t)) ^^^ (mulU (byt (F k) b) (pE k) ^^^ mulU (byt (upd F k y k) b) (pE k))
  rw [upd_same, hx]
theorem SumsP.zero {n : Nat} {F : Nat → ByteArray} {p : ByteArray} (h : SumsP n F p) : zeroS (xorB p (addF n F)) = true := zeroS_of fun b => by
  rw [byt_xor, h b, byt_addF, UInt8.xor_self]
theorem SumsQ.zero {n : Nat} {F : Nat → ByteArray} {q : ByteArray} (h : SumsQ n F q) : zeroS (xorB q (addF n (qT F))) = true := zeroS_of fun b => by
  rw [byt_xor, h b, byt_addQ, UInt8.xor_self]
end Go.Proofs.Ytekpamadimachaa.Gfm
