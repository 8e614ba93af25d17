/- How the statements on refill begin: the small case, the bound; columns of one length made of any. -/
import Derived.Test.YtjephdeolifbpaaRef06Fill
import Derived.Test.YtjephdeolifbpaaRefillWalk
namespace Go.Proofs.Ytjephdeolifbpaa
open Go.RowKit

def f4 (i : Nat) : ByteArray := [ByteArray.empty, ByteArray.empty, ⟨#[0]⟩, ⟨#[3]⟩].getD i ByteArray.empty
def g4 (i : Nat) : ByteArray := [⟨#[1]⟩, ⟨#[1]⟩, ⟨#[0]⟩, ⟨#[3]⟩].getD i ByteArray.empty
def l2 (i : Nat) : Int := [(0 : Int), 1].getD i 0
theorem may4 : Rf.mayF 4 f4 2 l2 = 0 := by decide +kernel
theorem same4 : Rf.sameB 4 (Rf.fillF 4 f4 2 l2) 4 g4 = true := by decide +kernel
theorem fits4 : Fits 1048576 4 f4 := fun i hi => by
  have : i = 0 ∨ i = 1 ∨ i = 2 ∨ i = 3 := by omega
  rcases this with rfl | rfl | rfl | rfl <;> decide

set_option maxRecDepth 100000 in
set_option maxHeartbeats 2000000 in
theorem shown6_any (w : World) :
    Calls Try.prog 10 #[] w fun e w' => e = .returned (.bool true) ∧ Below w.heap.size w w' := by
  have b1 : Below w.heap.size w ((w.alloc (.cells #[.string ByteArray.empty, .string ByteArray.empty, .string ⟨#[0]⟩, .string ⟨#[3]⟩] 9)).alloc (.cells #[.int .i64 0, .int .i64 1] 3)) := ((Below.refl _ w).alloc (Nat.le_refl _) _).alloc (by simp) _
  have r1 : RowS ((w.alloc (.cells #[.string ByteArray.empty, .string ByteArray.empty, .string ⟨#[0]⟩, .string ⟨#[3]⟩] 9)).alloc (.cells #[.int .i64 0, .int .i64 1] 3)) (some ⟨w.heap.size, 0, none⟩) 4 f4 :=
    (RowS.new w 4 f4 #[.string ByteArray.empty, .string ByteArray.empty, .string ⟨#[0]⟩, .string ⟨#[3]⟩] 9 rfl).below ((Below.refl _ _).alloc (Nat.le_refl _) _)
  have r2 : RowI .i64 ((w.alloc (.cells #[.string ByteArray.empty, .string ByteArray.empty, .string ⟨#[0]⟩, .string ⟨#[3]⟩] 9)).alloc (.cells #[.int .i64 0, .int .i64 1] 3)) (some ⟨w.heap.size + 1, 0, none⟩) 2 l2 := by
    have h := RowI.new .i64 (w.alloc (.cells #[.string ByteArray.empty, .string ByteArray.empty, .string ⟨#[0]⟩, .string ⟨#[3]⟩] 9)) [0, 1] #[.int .i64 0, .int .i64 1] 3 rfl
    rw [World.size_alloc] at h
    exact h
  have hF := Fill_says 4 f4 (by omega) fits4 (some ⟨w.heap.size, 0, none⟩) 4 (by omega) 2 l2 (by omega) (some ⟨w.heap.size + 1, 0, none⟩) 2 (by omega) _ r1 r2
  unfold FillSays at hF
  rw [may4, Rf.kF_ok] at hF
  clear r1 r2
  go_enter Try.func10, Try.ntmps10
  go_wp2_with fail
  refine hF.mono ?_
  rintro e w1 ⟨⟨g, c, rfl, rs, hc⟩, b2⟩
  have hS := Same_any 4 4 (Rf.fillF 4 f4 2 l2) g4 (by omega) (by omega) g (some ⟨w1.heap.size, 0, none⟩) c 4 (w1.alloc (.cells #[.string ⟨#[1]⟩, .string ⟨#[1]⟩, .string ⟨#[0]⟩, .string ⟨#[3]⟩] 9)) (rs.below ((Below.refl _ _).alloc (Nat.le_refl _) _)) (RowS.new w1 4 g4 #[.string ⟨#[1]⟩, .string ⟨#[1]⟩, .string ⟨#[0]⟩, .string ⟨#[3]⟩] 9 rfl)
  rw [same4] at hS
  have B2 : Hid (Below w.heap.size w w1) := b1.trans (b2.mono b1.size)
  clear rs hc b2 hF b1
  go_wp2_with fail
  refine hS.mono ?_
  rintro e w2 ⟨rfl, b3⟩
  have HB : Hid (Below w.heap.size w w2) := B2.out.trans ((((Below.refl _ w1).alloc (Nat.le_refl _) _).trans (b3.mono (by simp))).mono B2.out.size)
  clear hS b3
  go_wp2
  go_ret
  exact ⟨rfl, HB.out⟩

/-- what is within the statements' bound -/
def Light6 (n ln : Nat) (f : Nat → ByteArray) : Prop := n ≤ 20 ∧ ln ≤ 20 ∧ Fits 100 n f
theorem Light6.fits {n ln : Nat} {f : Nat → ByteArray} (h : Light6 n ln f) : Fits 1048576 n f := fun i hi => Nat.le_trans (h.2.2 i hi) (by decide)
set_option maxRecDepth 100000 in
set_option maxHeartbeats 1000000 in
theorem heavy6_none (w : World) (a b : Option Addr) (cap ln capb : Nat) (hln : ln ≤ maxLen) : Calls Try.prog 9 #[.slice a 0 cap, .slice b ln capb] w fun e w' => w' = w ∧ (e = .returned (.bool true) ∨ e = .returned (.bool false) ∧ ln ≤ 20) := by
  unfold maxLen at hln
  by_cases h20 : (20 : Int) < (ln : Int)
  · go_enter Try.func9, Try.ntmps9
    go_wp2
    go_ret
    exact ⟨rfl, .inl rfl⟩
  · have h2 : ln ≤ 20 := by omega
    go_enter Try.func9, Try.ntmps9
    go_wp2
    go_loopg [5] 0 (fun gg i wr => gg = 0 ∧ i = .int .i64 0 ∧ wr = w)
    case atStart => exact ⟨rfl, rfl, rfl⟩
    case round =>
      obtain ⟨rfl, rfl, rfl⟩ := hrel
      go_wp2
      go_ret
      exact ⟨rfl, .inr ⟨rfl, h2⟩⟩
set_option maxRecDepth 100000 in
set_option maxHeartbeats 1000000 in
theorem heavy6_some (w : World) (b off n cap : Nat) (f : Nat → ByteArray) (hr : RowS w (some ⟨b, off, none⟩) n f) (hm : ∀ j, (f j).size ≤ maxLen) (hn : n ≤ maxLen) (bb : Option Addr) (ln capb : Nat) (hln : ln ≤ maxLen) :
    Calls Try.prog 9 #[.slice (some ⟨b, off, none⟩) n cap, .slice bb ln capb] w fun e w' => w' = w ∧ (e = .returned (.bool true) ∨ e = .returned (.bool false) ∧ Light6 n ln f) := by
  unfold maxLen at hn hm hln
  by_cases h40 : (20 : Int) < (n : Int)
  · go_enter Try.func9, Try.ntmps9
    go_wp2
    go_ret
    exact ⟨rfl, .inl rfl⟩
  · by_cases hl20 : (20 : Int) < (ln : Int)
    · go_enter Try.func9, Try.ntmps9
      go_wp2
      go_ret
      exact ⟨rfl, .inl rfl⟩
    · have hn2 : n ≤ 20 := by omega
      have hl2 : ln ≤ 20 := by omega
      have HR : Hid (RowS w (some ⟨b, off, none⟩) n f) := hr
      clear hr
      go_enter Try.func9, Try.ntmps9
      go_wp2
      go_loopg [5] n (fun gg i wr => ∃ k : Nat, k ≤ n ∧ gg = n - k ∧ i = .int .i64 k ∧ wr = w ∧ Fits 100 k f)
      case atStart => exact ⟨0, Nat.zero_le _, rfl, rfl, rfl, fun j hj => absurd hj (Nat.not_lt_zero _)⟩
      case round =>
        obtain ⟨k, hk, rfl, rfl, rfl, hl⟩ := hrel
        have HL : Hid (Fits 100 k f) := hl
        clear hl
        by_cases hlt : k < n
        · have hc := HR.out.at hlt
          have hs := hm k
          obtain ⟨x, hx⟩ : ∃ x, f k = x := ⟨_, rfl⟩
          rw [hx] at hc hs
          have HX : Hid (f k = x) := hx
          clear hx
          by_cases h1 : (100 : Int) < (x.size : Int)
          · go_wp2
            go_ret
            exact ⟨rfl, .inl rfl⟩
          · go_wp2
            go_roundg (n - (k + 1))
            case measure => omega
            case rel => exact ⟨k + 1, by omega, rfl, by go_num, rfl, fun j hj => by
              by_cases e : j = k
              · subst e; rw [HX.out]; omega
              · exact HL.out j (by omega)⟩
        · have hkn : k = n := by omega
          subst hkn
          go_wp2
          go_ret
          exact ⟨rfl, .inr ⟨rfl, hn2, hl2, HL.out⟩⟩
theorem heavy6_any (w : World) (a : Option Addr) (n cap : Nat) (f : Nat → ByteArray) (hr : RowS w a n f) (hm : ∀ j, (f j).size ≤ maxLen) (hn : n ≤ maxLen) (b : Option Addr) (ln capb : Nat) (hln : ln ≤ maxLen) :
    Calls Try.prog 9 #[.slice a n cap, .slice b ln capb] w fun e w' => w' = w ∧ (e = .returned (.bool true) ∨ e = .returned (.bool false) ∧ Light6 n ln f) := by
  rcases hr.place with rfl | ⟨b0, o, rfl⟩
  · refine (heavy6_none w a b cap ln capb hln).mono ?_
    rintro e w' ⟨rfl, h⟩
    exact ⟨rfl, h.imp id fun ⟨h1, h2⟩ => ⟨h1, by omega, h2, fun j hj => absurd hj (Nat.not_lt_zero _)⟩⟩
  · exact heavy6_some w b0 o n cap f hr hm hn b ln capb hln
/-- a list of texts that came in -/
theorem IsStrs.open6 {w : World} {a : Option Addr} {len cap : Nat} {ss : List ByteArray} (h : IsStrs w a len cap ss) : ∃ f : Nat → ByteArray, len ≤ maxLen ∧ len ≤ cap ∧ (∀ j, (f j).size ≤ maxLen) ∧ RowS w a len f := by
  have hc : len ≤ cap := by
    rcases h with ⟨_, rfl, rfl, _⟩ | ⟨_, _, hl, _⟩
    · exact Nat.le_refl _
    · exact hl
  obtain ⟨l, rfl, hm, hs, hr⟩ := h.row
  exact ⟨_, hm, hc, hs, hr⟩
/-- a list of integers that came in -/
theorem IsRow.open6 {k : IntKind} {w : World} {a : Option Addr} {len cap : Nat} {zs : List Int} (h : IsRow k w a len cap zs) : ∃ L : Nat → Int, len ≤ maxLen ∧ len ≤ cap ∧ (∀ j, j < len → (Lit.int k (L j)).wf = true) ∧ RowI k w a len L := by
  have hc : len ≤ cap := by
    rcases h with ⟨_, rfl, rfl, _⟩ | ⟨_, _, hl, _⟩
    · exact Nat.le_refl _
    · exact hl
  obtain ⟨l, hl, hm, hw, hr⟩ := h.rowZ
  rw [hl] at hr
  refine ⟨_, hm, hc, fun j hj => ?_, hr⟩
  have hj' : j < l.length := by omega
  rw [List.getD_eq_getElem?_getD, List.getElem?_eq_getElem hj']
  exact hw _ (List.getElem_mem hj')
end Go.Proofs.Ytjephdeolifbpaa
