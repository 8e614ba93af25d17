/- All calls of the statements on a record that may be, of n texts: what each answers. -/
import Derived.Test.YtmikllmpinciiaaDoorMRecA
import Derived.Test.YtmikllmpinciiaaDoorRef12Same
namespace Go.Proofs.YtmikllmpinciiaaDoor
open Go.RowKit

/-- a row of texts without its first -/
theorem row_tail {w : World} {a : Option Addr} {n c : Nat} {f : Nat → ByteArray} (hr : RowS w a n f) (n1 : 1 ≤ n) (hc : n ≤ c) : ∃ a', (∀ W, (Instr.slice 26 (.slice a n c) (some (.int .i64 1)) none none).run Tryd.prog W = .ok (.slice a' (n - 1) (c - 1)) W) ∧ RowS w a' (n - 1) (fun j => f (j + 1)) := by
  refine ⟨if c = 1 then a else a.map (·.add 1), fun W => ?_, fun j hj => ?_⟩
  · rw [run_slice_l W 26 a n c (by kernel_rfl) .i64 1 (by omega) (by omega)]
    go_simp
  · obtain ⟨b, off, rfl, hcell⟩ := hr (j + 1) (by omega)
    refine ⟨b, off + 1, ?_, ?_⟩
    · rw [if_neg (by omega)]
      rfl
    · rw [show off + 1 + j = off + (j + 1) by omega]; exact hcell
namespace Rc
/-- a place without its data -/
def bareP (fr j : Nat) : Prt := ⟨(placeN fr j / 4 : Nat), (placeN fr j % 4 : Nat), ⟨#[]⟩⟩
end Rc
structure Known12 (seq row fr n : Nat) (l : Nat → ByteArray) (h : ByteArray) : Prop where
  size : h.size = 64
  opens : Crc.opens h.data.toList = true
  data : ∀ j, (Rc.someP fr l j).data.size = 64
  some : ∀ (W : World) (a : Option Addr) (cap : Nat), RowS W a n l → Calls Tryd.prog 21 #[.int .u64 (seq : Int), .int .u8 (row : Int), .int .u8 (fr : Int), .slice a n cap] W fun e w' => ∃ a' cap', e = .returned (.agg #[.int .u64 (seq : Int), .int .i64 (row : Int), .slice a' n cap']) ∧ PartsR w' a' n (Rc.someP fr l) ∧ n ≤ cap' ∧ (∀ x, a' = some x → W.heap.size ≤ x.block) ∧ Below W.heap.size W w'
  may : ∀ (W : World) (a : Option Addr) (c : Nat), PartsR W a n (Rc.someP fr l) → Calls Tryd.prog 19 #[.agg #[.int .u64 (seq : Int), .int .i64 (row : Int), .slice a n c]] W fun e w' => e = .returned (.bool true) ∧ Below W.heap.size W w'
  enc : ∀ (W : World) (a : Option Addr) (c : Nat), PartsR W a n (Rc.someP fr l) → Calls Tryd.prog 10 #[.agg #[.int .u64 (seq : Int), .int .i64 (row : Int), .slice a n c]] W fun e w' => ∃ a' c', e = .returned (.tuple #[.string h, .slice a' n c', .int .i64 0]) ∧ w'.ownsRow W.heap.size 9 1 (.slice a' n c') n (textVals n fun j => (Rc.someP fr l j).data) ∧ RowS w' a' n (fun j => (Rc.someP fr l j).data) ∧ n ≤ c' ∧ Below W.heap.size W w'
  dec : ∀ (W : World) (a : Option Addr) (c : Nat), n ≤ c → RowS W a n (fun j => (Rc.someP fr l j).data) → Calls Tryd.prog 15 #[.string h, .slice a n c] W fun e w' => ∃ a' c', e = .returned (.tuple #[.agg #[.int .u64 (seq : Int), .int .i64 (row : Int), .slice a' n c'], .int .i64 0]) ∧ PartsR w' a' n (Rc.someP fr l) ∧ Below W.heap.size W w'
  short : ∀ (W : World) (a : Option Addr) (m c : Nat) (g : Nat → ByteArray), m ≠ n → m ≤ 60 → (∀ j, j < m → (g j).size ≤ 100) → m ≤ c → RowS W a m g → Calls Tryd.prog 15 #[.string h, .slice a m c] W fun e w' => ∃ (q r : Int) (a' : Option Addr) (k c' : Nat), e = .returned (.tuple #[.agg #[.int .u64 q, .int .i64 r, .slice a' k c'], .int .i64 31]) ∧ Below W.heap.size W w'
  head : ∀ W, Calls Tryd.prog 13 #[.string h] W fun e w' => ∃ (sm : Int) (a' : Option Addr) (c' : Nat), e = .returned (.tuple #[.agg #[.int .u64 (seq : Int), .int .i64 (row : Int), .slice a' n c'], .int .u32 sm, .int .i64 0]) ∧ PartsR w' a' n (Rc.bareP fr) ∧ Below W.heap.size W w'

/-- what a head that is none answers -/
theorem head_none (X : RecSays) {b : ByteArray} {k : Nat} (hb : b.size ≤ 100) (h : Rc.headE b = k) (hk : k ≠ 0) (W : World) : Calls Tryd.prog 13 #[.string b] W fun e w' => ∃ (q r : Int) (a' : Option Addr) (m c' : Nat), e = .returned (.tuple #[.agg #[.int .u64 q, .int .i64 r, .slice a' m c'], .int .u32 0, .int .i64 (k : Int)]) ∧ Below W.heap.size W w' := by
  refine (X.head b W hb).mono ?_
  rintro e w' ⟨a', c', he, _, hbb⟩
  have hs : Rc.hSum b = 0 := by unfold Rc.hSum; rw [if_neg (by omega)]
  rw [h, hs] at he
  exact ⟨_, _, a', _, c', he, hbb⟩
theorem dec_none (X : RecSays) {b : ByteArray} {m k : Nat} {g : Nat → ByteArray} (hb : b.size ≤ 100) (hm : m ≤ 60) (hg : ∀ j, j < m → (g j).size ≤ 100) (h : Rc.decE b m g = k) (W : World) (a : Option Addr) (c : Nat) (hc : m ≤ c) (hr : RowS W a m g) :
    Calls Tryd.prog 15 #[.string b, .slice a m c] W fun e w' => ∃ (q r : Int) (a' : Option Addr) (n c' : Nat), e = .returned (.tuple #[.agg #[.int .u64 q, .int .i64 r, .slice a' n c'], .int .i64 (k : Int)]) ∧ Below W.heap.size W w' := by
  refine (X.dec b a m c g W hb hm hg hc hr).mono ?_
  rintro e w' ⟨a', c', he, _, hbb⟩
  rw [h] at he
  exact ⟨_, _, a', _, c', he, hbb⟩

theorem known12 (X : RecSays) (seq row fr n : Nat) (l : Nat → ByteArray) (h0 : seq < 18446744073709551616) (h1 : row < 256) (h2 : fr < 256) (n1 : 1 ≤ n) (n40 : n ≤ 40) (hl : ∀ j, j < n → (l j).size ≤ 100) :
    Known12 seq row fr n l (Rc.headS seq (row : Int) n (Rc.someP fr l) (Rc.sumF n (Rc.someP fr l))) := by
  have hnn : Rc.someN n = n := by unfold Rc.someN; omega
  have hM : Rc.mayB (row : Int) n (Rc.someP fr l) = true := by have := Rc.someP_may (fr := fr) (l := l) h1 n1; rw [hnn] at this; exact this
  have hI : RecIn (row : Int) n (Rc.someP fr l) := by have := Rc.someP_in (fr := fr) (l := l) (n := n) h1; rw [hnn] at this; exact this
  have hLi : RecLight n (Rc.someP fr l) := by have := Rc.someP_light fr n l; rw [hnn] at this; exact this
  obtain ⟨x1, x2, x3⟩ := Rc.enc_may (seq := seq) hM
  obtain ⟨hs, ho⟩ := Rc.headS_may h0 hM
  obtain ⟨b0, b1, b2, b3, _, b5⟩ := Rc.back_head h0 hM
  obtain ⟨d0, d1, d2, d3, d4⟩ := Rc.back_dec h0 hM (g := fun j => (Rc.someP fr l j).data) (fun _ _ => rfl)
  have hsz : ∀ j, (Rc.someP fr l j).data.size = 64 := fun j => Rc.fillB_size (l j)
  refine ⟨hs, ho, hsz, ?_, ?_, ?_, ?_, ?_, ?_⟩
  · intro W a cap hr
    have := some12_any seq row fr a n cap l W h0 h1 h2 hr hl
    rw [hnn] at this; exact this
  · intro W a c hr
    have := X.may seq (row : Int) a n c (Rc.someP fr l) W h0 hI hLi hr
    rw [hM] at this; exact this
  · intro W a c hr
    refine (X.enc seq (row : Int) a n c (Rc.someP fr l) W h0 hI hLi hr).mono ?_
    rintro e w' ⟨v, he, hown, hb⟩
    rw [x1, x3] at he
    rw [x2] at hown
    obtain ⟨a', c', rfl, hrs, hc, _⟩ := RowS.of_owns hown
    exact ⟨a', c', he, hown, hrs, hc, hb⟩
  · intro W a c hc hr
    refine (X.dec _ a n c _ W (by omega) (by omega) (fun j _ => by have := hsz j; omega) hc hr).mono ?_
    rintro e w' ⟨a', c', he, hp, hb⟩
    rw [d0, d1, d3] at he
    have d2' : ((Rc.dRow (Rc.headS seq (row : Int) n (Rc.someP fr l) (Rc.sumF n (Rc.someP fr l))) n (fun j => (Rc.someP fr l j).data) : Nat) : Int) = (row : Int) := d2
    rw [d2'] at he
    rw [d3] at hp
    exact ⟨a', c', he, hp.congr d4, hb⟩
  · intro W a m c g hm h60 hg hc hr
    exact dec_none X (by omega) h60 hg (Rc.back_short h0 hM g hm) W a c hc hr
  · intro W
    refine (X.head _ W (by omega)).mono ?_
    rintro e w' ⟨a', c', he, hp, hb⟩
    have b2' : ((Rc.hRow (Rc.headS seq (row : Int) n (Rc.someP fr l) (Rc.sumF n (Rc.someP fr l))) : Nat) : Int) = (row : Int) := b2
    rw [b0, b1, b3, b2'] at he
    rw [b3] at hp
    exact ⟨_, a', c', he, hp.congr (fun j hj => b5 j hj), hb⟩
end Go.Proofs.YtmikllmpinciiaaDoor
