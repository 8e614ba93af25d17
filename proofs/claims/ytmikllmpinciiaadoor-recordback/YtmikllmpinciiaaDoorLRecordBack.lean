/- For every record that may be, of any texts, the law RecordBack returns true: it comes back, from its head, and its load. Conditions: the library's tables that strings.Trim's code names, which the call never reads at these texts, hold what they are laid with (tied to the program's text by the card). -/
import Derived.Test.YtmikllmpinciiaaDoorRecKnown
import Derived.Test.YtmikllmpinciiaaDoorRecInts
import Derived.Test.YtmikllmpinciiaaDoorMRkB
import Derived.Test.YtmikllmpinciiaaDoorCards
import Derived.Test.YtmikllmpinciiaaDoorTie
import Derived.ProofKit
import Derived.OpenShut
import Derived.ShutString
import Derived.Lay
import Derived.LaidOnce
import Derived.Stop.Joined
import Derived.SevenTiedAt
namespace Go.Proofs.YtmikllmpinciiaaDoor
open Go.RowKit

set_option maxRecDepth 100000 in
set_option maxHeartbeats 4000000 in
theorem back12_main (X : RecSays) (seq row fr : Nat) (a : Option Addr) (n cap : Nat) (l : Nat → ByteArray) (w : World) (h0 : seq < 18446744073709551616) (h1 : row < 256) (h2 : fr < 256) (hr : RowS w a n l) (n1 : 1 ≤ n) (n40 : n ≤ 40) (hl : ∀ j, j < n → (l j).size ≤ 100) :
    Calls Tryd.prog 4 #[.int .u64 (seq : Int), .int .u8 (row : Int), .int .u8 (fr : Int), .slice a n cap] w fun e w' => e = .returned (.bool true) ∧ Below w.heap.size w w' := by
  have hheavy := heavy12_any w a n cap l hr (fun j hj => by have := hl j hj; unfold maxLen; omega) (by unfold maxLen; omega)
  have hsh := fun W => shown12_any X W
  have hsome := fun (W : World) (hr : RowS W a n l) => some12_any seq row fr a n cap l W h0 h1 h2 hr hl
  have hnn : Rc.someN n = n := by unfold Rc.someN; omega
  have hM : Rc.mayB (row : Int) n (Rc.someP fr l) = true := by have := Rc.someP_may (fr := fr) (l := l) h1 n1; rw [hnn] at this; exact this
  have hI : RecIn (row : Int) n (Rc.someP fr l) := by have := Rc.someP_in (fr := fr) (l := l) (n := n) h1; rw [hnn] at this; exact this
  have hLi : RecLight n (Rc.someP fr l) := by have := Rc.someP_light fr n l; rw [hnn] at this; exact this
  rw [hnn] at hsome
  have hE := fun (W : World) (a : Option Addr) (c : Nat) (hr : PartsR W a n (Rc.someP fr l)) => X.enc seq (row : Int) a n c (Rc.someP fr l) W h0 hI hLi hr
  have hMy := fun (W : World) (a : Option Addr) (c : Nat) (hr : PartsR W a n (Rc.someP fr l)) => X.may seq (row : Int) a n c (Rc.someP fr l) W h0 hI hLi hr
  obtain ⟨x1, x2, x3⟩ := Rc.enc_may (seq := seq) hM
  unfold EncOwn at hE
  rw [x1, x2, x3] at hE
  rw [hM] at hMy
  have hs := (Rc.headS_may h0 hM).1
  obtain ⟨b0, b1, b2, b3, _, _⟩ := Rc.back_head h0 hM
  obtain ⟨d0, d1, d2, d3, d4⟩ := Rc.back_dec h0 hM (g := fun j => (Rc.someP fr l j).data) (fun _ _ => rfl)
  have hsr := fun g => Rc.back_short h0 hM (m := n - 1) g (by omega)
  obtain ⟨h, hh⟩ : ∃ h, h = Rc.headS seq (row : Int) n (Rc.someP fr l) (Rc.sumF n (Rc.someP fr l)) := ⟨_, rfl⟩
  rw [← hh] at hE hs b0 b1 b2 b3 d0 d1 d2 d3 d4 hsr
  have hDe := fun (W : World) (a : Option Addr) (c : Nat) (hc : n ≤ c) (hr : RowS W a n fun j => (Rc.someP fr l j).data) => X.dec h a n c _ W (by omega) (by omega) (fun j hj => by rw [show (Rc.someP fr l j).data = Rc.fillB (l j) from rfl, Rc.fillB_size]; decide) hc hr
  have hDs := fun (W : World) (a : Option Addr) (c : Nat) (g : Nat → ByteArray) (hg : ∀ j, j < n - 1 → (g j).size ≤ 100) (hc : n - 1 ≤ c) (hr : RowS W a (n - 1) g) => X.dec h a (n - 1) c g W (by omega) (by omega) hg hc hr
  have hHd := fun W => X.head h W (by omega)
  unfold DecAns12 at hDe hDs
  unfold HeadAns at hHd
  rw [d0, d1, d3] at hDe
  rw [b0, b1, b3] at hHd
  have hrw1 : (Rc.hRow h : Int) = (row : Int) := b2
  have hrw2 : (Rc.dRow h n (fun j => (Rc.someP fr l j).data) : Int) = (row : Int) := d2
  rw [hrw2] at hDe
  rw [hrw1] at hHd
  have HDe : Hid (∀ (W : World) (a : Option Addr) (c : Nat), n ≤ c → RowS W a n (fun j => (Rc.someP fr l j).data) → Calls Tryd.prog 15 #[.string h, .slice a n c] W fun e w' => ∃ a' c', e = .returned (.tuple #[.agg #[.int .u64 (seq : Int), .int .i64 (row : Int), .slice a' n c'], .int .i64 0]) ∧ PartsR w' a' n (Rc.someP fr l) ∧ Below W.heap.size W w') :=
    fun W a c hc hr => (hDe W a c hc hr).mono fun e w' ⟨a', c', he, hp, hb⟩ => ⟨a', c', he, hp.congr d4, hb⟩
  have HDs : Hid (∀ (W : World) (a : Option Addr) (c : Nat) (g : Nat → ByteArray), (∀ j, j < n - 1 → (g j).size ≤ 100) → n - 1 ≤ c → RowS W a (n - 1) g → Calls Tryd.prog 15 #[.string h, .slice a (n - 1) c] W fun e w' => ∃ (q r : Int) (a' : Option Addr) (m c' : Nat), e = .returned (.tuple #[.agg #[.int .u64 q, .int .i64 r, .slice a' m c'], .int .i64 31]) ∧ Below W.heap.size W w') :=
    fun W a c g hg hc hr => (hDs W a c g hg hc hr).mono fun e w' ⟨a', c', he, _, hb⟩ => ⟨(Rc.dSeq h (n - 1) g : Int), (Rc.dRow h (n - 1) g : Int), a', Rc.dN h (n - 1) g, c', by have e2 := hsr g; rw [e2] at he; exact he, hb⟩
  obtain ⟨sm, hsm⟩ : ∃ sm : Int, sm = (Rc.hSum h : Int) := ⟨_, rfl⟩
  rw [← hsm] at hHd
  have HHd : Hid (∀ W, Calls Tryd.prog 13 #[.string h] W fun e w' => ∃ a' c', e = .returned (.tuple #[.agg #[.int .u64 (seq : Int), .int .i64 (row : Int), .slice a' n c'], .int .u32 sm, .int .i64 0]) ∧ Below W.heap.size W w') :=
    fun W => (hHd W).mono fun e w' ⟨a', c', he, _, hb⟩ => ⟨a', c', he, hb⟩
  have HE : Hid (∀ (W : World) (a : Option Addr) (c : Nat), PartsR W a n (Rc.someP fr l) → Calls Tryd.prog 10 #[.agg #[.int .u64 (seq : Int), .int .i64 (row : Int), .slice a n c]] W fun e w' => ∃ a' c', e = .returned (.tuple #[.string h, .slice a' n c', .int .i64 0]) ∧ RowS w' a' n (fun j => (Rc.someP fr l j).data) ∧ n ≤ c' ∧ Below W.heap.size W w') :=
    fun W a c hr => (hE W a c hr).mono fun e w' ⟨v, he, hown, hb⟩ => by
      obtain ⟨a', c', rfl, hrs, hc, _⟩ := RowS.of_owns hown
      exact ⟨a', c', he, hrs, hc, hb⟩
  have HMy : Hid _ := hMy
  have HSo : Hid _ := hsome
  have HSh : Hid _ := hsh
  have HTh : Hid (∀ (W : World) (a : Option Addr) (c : Nat), PartsR W a n (Rc.someP fr l) → Calls Tryd.prog 12 #[.agg #[.int .u64 (seq : Int), .int .i64 (row : Int), .slice a n c]] W fun e w' => ∃ a' c', e = .returned (.agg #[.int .u64 (seq : Int), .int .i64 (row : Int), .slice a' n c']) ∧ PartsR w' a' n (Rc.someP fr l) ∧ Below W.heap.size W w') :=
    fun W a c hr => theirs12_any _ _ a n c _ W (by omega) hr
  have HSa : Hid (∀ (W : World) (a a' : Option Addr) (c c' : Nat), PartsR W a n (Rc.someP fr l) → PartsR W a' n (Rc.someP fr l) → Calls Tryd.prog 18 #[.agg #[.int .u64 (seq : Int), .int .i64 (row : Int), .slice a n c], .agg #[.int .u64 (seq : Int), .int .i64 (row : Int), .slice a' n c']] W fun e w' => e = .returned (.bool true) ∧ Below W.heap.size W w') :=
    fun W a a' c c' hp hq => by
      have q := rSame12_any seq seq n n c c' (row : Int) (row : Int) a a' (Rc.someP fr l) (Rc.someP fr l) W (by omega) hp hq
      rw [(Rc.sameR_iff _ _ _ _ _ _ _ _).2 ⟨rfl, rfl, rfl, fun _ _ => rfl⟩] at q
      exact q
  have HRow : Hid (RowS w a n l) := hr
  have H64 : Hid (∀ j, (Rc.someP fr l j).data.size ≤ 100) := fun j => by show (Rc.fillB (l j)).size ≤ 100; rw [Rc.fillB_size]; decide
  have hc1 : IntKind.i64.wrap (row : Int) = (row : Int) := by rw [IntKind.wrap_i64]; omega
  have hmx : Tryd.prog.follows .mixedOrders = true := by kernel_rfl
  have HMX : Hid (Tryd.prog.follows .mixedOrders = true) := hmx
  have hk1 : ¬ (40 : Int) < (n : Int) := by omega
  have hk2 : ((n : Int) == 0) = false := by rw [beq_eq_false_iff_ne]; omega
  clear hr hsome hsh hE hMy hDe hDs hHd hmx hM hI hLi hh x1 x2 x3 b0 b1 b2 b3 d0 d1 d2 d3 d4 hsr hrw1 hrw2 hsm
  go_enter Tryd.func4, Tryd.ntmps4
  go_wp2_with fail
  refine hheavy.mono ?_
  rintro e w' ⟨rfl, hcase⟩
  rcases hcase with rfl | ⟨rfl, _⟩
  · go_wp2_with fail
    refine (HSh.out _).mono ?_
    rintro e w2 ⟨rfl, hb⟩
    have HB : Hid _ := hb
    clear hb
    go_wp2
    go_ret
    exact ⟨rfl, HB.out⟩
  · go_wp2_with fail
    refine (HSh.out _).mono ?_
    rintro e w0 ⟨rfl, hb0⟩
    have HB0 : Hid (Below w'.heap.size w' w0) := hb0
    have HRow0 : Hid (RowS w0 a n l) := HRow.out.below hb0
    clear hb0 hheavy
    go_wp2_with fail
    refine (HSo.out _ HRow0.out).mono ?_
    rintro e w1 ⟨a1, c1, rfl, hp1, _, _, hb1⟩
    have HB1 : Hid (Below w'.heap.size w' w1) := below2 HB0.out hb1
    have HP1 : Hid (PartsR w1 a1 n (Rc.someP fr l)) := hp1
    clear hp1 hb1
    go_upto_region 4 with fail
    obtain ⟨hx9, b9'⟩ := box_new12 w1 25 (.int .u64 (seq : Int)) (.int .i64 (row : Int)) (.slice a1 n c1)
    obtain ⟨w2, hw2⟩ : ∃ w2, w2 = w1.alloc (.cells #[.int .u64 (seq : Int), .int .i64 (row : Int), .slice a1 n c1] 25) := ⟨_, rfl⟩
    obtain ⟨b9, hb9⟩ : ∃ b9, b9 = w1.heap.size := ⟨_, rfl⟩
    rw [← hw2] at hx9 b9' ⊢
    rw [← hb9] at hx9 ⊢
    have HP2 : Hid (PartsR w2 a1 n (Rc.someP fr l)) := HP1.out.below b9'
    have HB2 : Hid (Below w'.heap.size w' w2) := below2 HB1.out b9'
    have HX9 : Hid (BoxAt w2 b9 (.int .u64 (seq : Int)) (.int .i64 (row : Int)) (.slice a1 n c1)) := hx9
    obtain ⟨y0, y1, y2, _, _, _⟩ := hx9
    clear hw2 hb9 b9' HP1
    go_wp2_with fail
    refine (HE.out _ _ _ HP2.out).mono ?_
    rintro e w3 ⟨aL, cL, rfl, hr3, hcL, hb3⟩
    have HcL : Hid (n ≤ cL) := hcL
    have HR3 : Hid (RowS w3 aL n (fun j => (Rc.someP fr l j).data)) := hr3
    have HP3 : Hid (PartsR w3 a1 n (Rc.someP fr l)) := HP2.out.below hb3
    have HX3 : Hid (BoxAt w3 b9 (.int .u64 (seq : Int)) (.int .i64 (row : Int)) (.slice a1 n c1)) := HX9.out.below hb3 HX9.out.lt
    have HB3 : Hid (Below w'.heap.size w' w3) := below2 HB2.out hb3
    clear hr3 hb3 y0 y1 y2 HX9 HP2
    go_wp2_with fail
    refine (HDe.out _ _ _ HcL.out HR3.out).mono ?_
    rintro e w4 ⟨a4, c4, rfl, hp4, hb4⟩
    have HR4 : Hid (RowS w4 aL n (fun j => (Rc.someP fr l j).data)) := HR3.out.below hb4
    have HP4 : Hid (PartsR w4 a1 n (Rc.someP fr l) ∧ PartsR w4 a4 n (Rc.someP fr l)) := ⟨HP3.out.below hb4, hp4⟩
    have HX4 : Hid (BoxAt w4 b9 (.int .u64 (seq : Int)) (.int .i64 (row : Int)) (.slice a1 n c1)) := HX3.out.below hb4 HX3.out.lt
    have HB4 : Hid (Below w'.heap.size w' w4) := below2 HB3.out hb4
    clear hp4 hb4 HX3 HP3
    go_upto_region 6 with fail
    obtain ⟨hx13, b13'⟩ := box_new12 w4 25 (.int .u64 (seq : Int)) (.int .i64 (row : Int)) (.slice a4 n c4)
    obtain ⟨w5, hw5⟩ : ∃ w5, w5 = w4.alloc (.cells #[.int .u64 (seq : Int), .int .i64 (row : Int), .slice a4 n c4] 25) := ⟨_, rfl⟩
    obtain ⟨b13, hb13⟩ : ∃ b13, b13 = w4.heap.size := ⟨_, rfl⟩
    rw [← hw5] at hx13 b13' ⊢
    rw [← hb13] at hx13 ⊢
    have HR5 : Hid (RowS w5 aL n (fun j => (Rc.someP fr l j).data)) := HR4.out.below b13'
    have HP5 : Hid (PartsR w5 a1 n (Rc.someP fr l) ∧ PartsR w5 a4 n (Rc.someP fr l)) := ⟨HP4.out.1.below b13', HP4.out.2.below b13'⟩
    have HX5 : Hid (BoxAt w5 b9 (.int .u64 (seq : Int)) (.int .i64 (row : Int)) (.slice a1 n c1) ∧ BoxAt w5 b13 (.int .u64 (seq : Int)) (.int .i64 (row : Int)) (.slice a4 n c4)) := ⟨HX4.out.below b13' HX4.out.lt, hx13⟩
    have HB5 : Hid (Below w'.heap.size w' w5) := below2 HB4.out b13'
    clear hw5 hb13 b13' hx13 HR4 HP4 HX4 HB4
    go_wp2_with fail
    refine (HHd.out _).mono ?_
    rintro e w6 ⟨a6, c6, rfl, hb6⟩
    have HR6 : Hid (RowS w6 aL n (fun j => (Rc.someP fr l j).data)) := HR5.out.below hb6
    have HP6 : Hid (PartsR w6 a1 n (Rc.someP fr l) ∧ PartsR w6 a4 n (Rc.someP fr l)) := ⟨HP5.out.1.below hb6, HP5.out.2.below hb6⟩
    have HX6 : Hid (BoxAt w6 b9 (.int .u64 (seq : Int)) (.int .i64 (row : Int)) (.slice a1 n c1) ∧ BoxAt w6 b13 (.int .u64 (seq : Int)) (.int .i64 (row : Int)) (.slice a4 n c4)) := ⟨HX5.out.1.below hb6 HX5.out.1.lt, HX5.out.2.below hb6 HX5.out.2.lt⟩
    have HB6 : Hid (Below w'.heap.size w' w6) := below2 HB5.out hb6
    clear hb6 HR5 HP5 HX5 HB5
    go_upto_region 7 with fail
    obtain ⟨hx15, b15'⟩ := box_new12 w6 25 (.int .u64 (seq : Int)) (.int .i64 (row : Int)) (.slice a6 n c6)
    obtain ⟨w7, hw7⟩ : ∃ w7, w7 = w6.alloc (.cells #[.int .u64 (seq : Int), .int .i64 (row : Int), .slice a6 n c6] 25) := ⟨_, rfl⟩
    obtain ⟨b15, hb15⟩ : ∃ b15, b15 = w6.heap.size := ⟨_, rfl⟩
    rw [← hw7] at hx15 b15' ⊢
    rw [← hb15] at hx15 ⊢
    have HR7 : Hid (RowS w7 aL n (fun j => (Rc.someP fr l j).data)) := HR6.out.below b15'
    have HP7 : Hid (PartsR w7 a1 n (Rc.someP fr l) ∧ PartsR w7 a4 n (Rc.someP fr l)) := ⟨HP6.out.1.below b15', HP6.out.2.below b15'⟩
    have HX7 : Hid (BoxAt w7 b9 (.int .u64 (seq : Int)) (.int .i64 (row : Int)) (.slice a1 n c1) ∧ BoxAt w7 b13 (.int .u64 (seq : Int)) (.int .i64 (row : Int)) (.slice a4 n c4) ∧ BoxAt w7 b15 (.int .u64 (seq : Int)) (.int .i64 (row : Int)) (.slice a6 n c6)) := ⟨HX6.out.1.below b15' HX6.out.1.lt, HX6.out.2.below b15' HX6.out.2.lt, hx15⟩
    have HB7 : Hid (Below w'.heap.size w' w7) := below2 HB6.out b15'
    clear hw7 hb15 b15' hx15 HR6 HP6 HX6 HB6
    have hkeep : ∀ W, Below w7.heap.size w7 W → (W.cell? ⟨b9, 0, none⟩ = some (.int .u64 (seq : Int)) ∧ W.cell? ⟨b9, 1, none⟩ = some (.int .i64 (row : Int)) ∧ W.cell? ⟨b9, 2, none⟩ = some (.slice a1 n c1)) ∧ (W.cell? ⟨b13, 0, none⟩ = some (.int .u64 (seq : Int)) ∧ W.cell? ⟨b13, 1, none⟩ = some (.int .i64 (row : Int)) ∧ W.cell? ⟨b13, 2, none⟩ = some (.slice a4 n c4)) ∧ (W.cell? ⟨b15, 0, none⟩ = some (.int .u64 (seq : Int)) ∧ W.cell? ⟨b15, 1, none⟩ = some (.int .i64 (row : Int)) ∧ W.cell? ⟨b15, 2, none⟩ = some (.slice a6 n c6)) ∧ Below w7.heap.size w7 W := fun W hW => by
      have y1 := HX7.out.1.below hW HX7.out.1.lt
      have y2 := HX7.out.2.1.below hW HX7.out.2.1.lt
      have y3 := HX7.out.2.2.below hW HX7.out.2.2.lt
      exact ⟨⟨y1.k0, y1.k1, y1.k2⟩, ⟨y2.k0, y2.k1, y2.k2⟩, ⟨y3.k0, y3.k1, y3.k2⟩, hW⟩
    have HKeep : Hid _ := hkeep
    have hS : (fun W : World => (W.cell? ⟨b9, 0, none⟩ = some (.int .u64 (seq : Int)) ∧ W.cell? ⟨b9, 1, none⟩ = some (.int .i64 (row : Int)) ∧ W.cell? ⟨b9, 2, none⟩ = some (.slice a1 n c1)) ∧ (W.cell? ⟨b13, 0, none⟩ = some (.int .u64 (seq : Int)) ∧ W.cell? ⟨b13, 1, none⟩ = some (.int .i64 (row : Int)) ∧ W.cell? ⟨b13, 2, none⟩ = some (.slice a4 n c4)) ∧ (W.cell? ⟨b15, 0, none⟩ = some (.int .u64 (seq : Int)) ∧ W.cell? ⟨b15, 1, none⟩ = some (.int .i64 (row : Int)) ∧ W.cell? ⟨b15, 2, none⟩ = some (.slice a6 n c6)) ∧ Below w7.heap.size w7 W) w7.drew := hkeep _ ((Below.refl _ _).drew)
    clear hkeep
    refine wp_region_held (S := fun W => (W.cell? ⟨b9, 0, none⟩ = some (.int .u64 (seq : Int)) ∧ W.cell? ⟨b9, 1, none⟩ = some (.int .i64 (row : Int)) ∧ W.cell? ⟨b9, 2, none⟩ = some (.slice a1 n c1)) ∧ (W.cell? ⟨b13, 0, none⟩ = some (.int .u64 (seq : Int)) ∧ W.cell? ⟨b13, 1, none⟩ = some (.int .i64 (row : Int)) ∧ W.cell? ⟨b13, 2, none⟩ = some (.slice a4 n c4)) ∧ (W.cell? ⟨b15, 0, none⟩ = some (.int .u64 (seq : Int)) ∧ W.cell? ⟨b15, 1, none⟩ = some (.int .i64 (row : Int)) ∧ W.cell? ⟨b15, 2, none⟩ = some (.slice a6 n c6)) ∧ Below w7.heap.size w7 W) HMX.out ?_
    change wpAnyH _ _ _ _ _ _ _ _ w7.drew
    refine held_quiet 0 (v := ?v0q1) rfl (by kernel_rfl) (fun _ _ _ h => h) (by assumption) rfl ?hy0q1 ?rest0q1
    case hy0q1 => (intro wS hSw; (try dsimp only at hSw); go_simp; try with_reducible rfl)
    try simp only [Act.put, List.setIfInBounds_toArray, List.set_cons_zero, List.set_cons_succ]
    refine held_one 1 rfl (by kernel_rfl) ?_
    go_wp2_with (go_at_call 19; refine (HMy.out _ _ _ (HP7.out.1.below ((Below.refl _ w7).drew))).mono ?_; rintro e w8 ⟨rfl, hb8⟩)
    have hB8 : Below w7.heap.size w7 w8 := below2 ((Below.refl _ w7).drew) hb8
    have hS8 : (fun W : World => (W.cell? ⟨b9, 0, none⟩ = some (.int .u64 (seq : Int)) ∧ W.cell? ⟨b9, 1, none⟩ = some (.int .i64 (row : Int)) ∧ W.cell? ⟨b9, 2, none⟩ = some (.slice a1 n c1)) ∧ (W.cell? ⟨b13, 0, none⟩ = some (.int .u64 (seq : Int)) ∧ W.cell? ⟨b13, 1, none⟩ = some (.int .i64 (row : Int)) ∧ W.cell? ⟨b13, 2, none⟩ = some (.slice a4 n c4)) ∧ (W.cell? ⟨b15, 0, none⟩ = some (.int .u64 (seq : Int)) ∧ W.cell? ⟨b15, 1, none⟩ = some (.int .i64 (row : Int)) ∧ W.cell? ⟨b15, 2, none⟩ = some (.slice a6 n c6)) ∧ Below w7.heap.size w7 W) w8 := HKeep.out _ hB8
    refine ⟨hS8, ?_⟩
    clear hS hb8
    refine held_quiet 2 (v := ?v2q2) rfl (by kernel_rfl) (fun _ _ _ h => h) (by assumption) rfl ?hy2q2 ?rest2q2
    case hy2q2 => (intro wS hSw; (try dsimp only at hSw); go_simp; try with_reducible rfl)
    try simp only [Act.put, List.setIfInBounds_toArray, List.set_cons_zero, List.set_cons_succ]
    refine held_quiet 3 (v := ?v3q3) rfl (by kernel_rfl) (fun _ _ _ h => h) (by assumption) rfl ?hy3q3 ?rest3q3
    case hy3q3 => (intro wS hSw; (try dsimp only at hSw); go_simp; try with_reducible rfl)
    try simp only [Act.put, List.setIfInBounds_toArray, List.set_cons_zero, List.set_cons_succ]
    refine held_quiet 4 (v := ?v4q4) rfl (by kernel_rfl) (fun _ _ _ h => h) (by assumption) rfl ?hy4q4 ?rest4q4
    case hy4q4 => (intro wS hSw; (try dsimp only at hSw); go_simp; try with_reducible rfl)
    try simp only [Act.put, List.setIfInBounds_toArray, List.set_cons_zero, List.set_cons_succ]
    refine held_quiet 5 (v := ?v5q5) rfl (by kernel_rfl) (fun _ _ _ h => h) (by assumption) rfl ?hy5q5 ?rest5q5
    case hy5q5 => (intro wS hSw; (try dsimp only at hSw); go_simp; try with_reducible rfl)
    try simp only [Act.put, List.setIfInBounds_toArray, List.set_cons_zero, List.set_cons_succ]
    refine held_quiet 6 (v := ?v6q6) rfl (by kernel_rfl) (fun _ _ _ h => h) (by assumption) rfl ?hy6q6 ?rest6q6
    case hy6q6 => (intro wS hSw; (try dsimp only at hSw); go_simp; try with_reducible rfl)
    try simp only [Act.put, List.setIfInBounds_toArray, List.set_cons_zero, List.set_cons_succ]
    refine held_quiet 7 (v := ?v7q7) rfl (by kernel_rfl) (fun _ _ _ h => h) (by assumption) rfl ?hy7q7 ?rest7q7
    case hy7q7 => (intro wS hSw; (try dsimp only at hSw); go_simp; try with_reducible rfl)
    try simp only [Act.put, List.setIfInBounds_toArray, List.set_cons_zero, List.set_cons_succ]
    refine held_quiet 8 (v := ?v8q8) rfl (by kernel_rfl) (fun _ _ _ h => h) (by assumption) rfl ?hy8q8 ?rest8q8
    case hy8q8 => (intro wS hSw; (try dsimp only at hSw); go_simp; try with_reducible rfl)
    try simp only [Act.put, List.setIfInBounds_toArray, List.set_cons_zero, List.set_cons_succ]
    refine held_quiet 9 (v := ?v9q9) rfl (by kernel_rfl) (fun _ _ _ h => h) (by assumption) rfl ?hy9q9 ?rest9q9
    case hy9q9 => (intro wS hSw; (try dsimp only at hSw); go_simp; try with_reducible rfl)
    try simp only [Act.put, List.setIfInBounds_toArray, List.set_cons_zero, List.set_cons_succ]
    refine held_quiet 10 (v := ?v10q10) rfl (by kernel_rfl) (fun _ _ _ h => h) (by assumption) rfl ?hy10q10 ?rest10q10
    case hy10q10 => (intro wS hSw; (try dsimp only at hSw); go_simp; try with_reducible rfl)
    try simp only [Act.put, List.setIfInBounds_toArray, List.set_cons_zero, List.set_cons_succ]
    refine held_quiet 11 (v := ?v11q11) rfl (by kernel_rfl) (fun _ _ _ h => h) (by assumption) rfl ?hy11q11 ?rest11q11
    case hy11q11 => (intro wS hSw; (try dsimp only at hSw); go_simp; try with_reducible rfl)
    try simp only [Act.put, List.setIfInBounds_toArray, List.set_cons_zero, List.set_cons_succ]
    refine held_quiet 12 (v := ?v12q12) rfl (by kernel_rfl) (fun _ _ _ h => h) (by assumption) rfl ?hy12q12 ?rest12q12
    case hy12q12 => (intro wS hSw; (try dsimp only at hSw); go_simp; try with_reducible rfl)
    try simp only [Act.put, List.setIfInBounds_toArray, List.set_cons_zero, List.set_cons_succ]
    refine held_quiet 13 (v := ?v13q13) rfl (by kernel_rfl) (fun _ _ _ h => h) (by assumption) rfl ?hy13q13 ?rest13q13
    case hy13q13 => (intro wS hSw; (try dsimp only at hSw); go_simp; try with_reducible rfl)
    try simp only [Act.put, List.setIfInBounds_toArray, List.set_cons_zero, List.set_cons_succ]
    refine held_quiet 14 (v := ?v14q14) rfl (by kernel_rfl) (fun _ _ _ h => h) (by assumption) rfl ?hy14q14 ?rest14q14
    case hy14q14 => (intro wS hSw; (try dsimp only at hSw); go_simp; try with_reducible rfl)
    try simp only [Act.put, List.setIfInBounds_toArray, List.set_cons_zero, List.set_cons_succ]
    refine held_quiet 15 (v := ?v15q15) rfl (by kernel_rfl) (fun _ _ _ h => h) (by assumption) rfl ?hy15q15 ?rest15q15
    case hy15q15 => (intro wS hSw; (try dsimp only at hSw); go_simp; try with_reducible rfl)
    try simp only [Act.put, List.setIfInBounds_toArray, List.set_cons_zero, List.set_cons_succ]
    refine held_quiet 16 (v := ?v16q16) rfl (by kernel_rfl) (fun _ _ _ h => h) (by assumption) rfl ?hy16q16 ?rest16q16
    case hy16q16 => (intro wS hSw; (try dsimp only at hSw); go_simp; try with_reducible rfl)
    try simp only [Act.put, List.setIfInBounds_toArray, List.set_cons_zero, List.set_cons_succ]
    refine held_quiet 18 (v := ?v18q17) rfl (by kernel_rfl) (fun _ _ _ h => h) (by assumption) rfl ?hy18q17 ?rest18q17
    case hy18q17 => (intro wS hSw; (try dsimp only at hSw); go_simp; try with_reducible rfl)
    try simp only [Act.put, List.setIfInBounds_toArray, List.set_cons_zero, List.set_cons_succ]
    have HB8 : Hid (Below w7.heap.size w7 w8) := hB8
    clear hS8 hB8
    refine held_one 17 rfl (by kernel_rfl) ?_
    go_wp2_with (go_at_call 12; refine (HTh.out _ _ _ (HP7.out.2.below HB8.out)).mono ?_; rintro e w9 ⟨aT, cT, rfl, hpT, hb9⟩)
    have HB9 : Hid (Below w7.heap.size w7 w9) := below2 HB8.out hb9
    have HPT : Hid (PartsR w9 aT n (Rc.someP fr l)) := hpT
    refine ⟨HKeep.out _ HB9.out, ?_⟩
    clear hb9 hpT
    refine held_one 19 rfl (by kernel_rfl) ?_
    go_wp2_with (go_at_call 12; refine (HTh.out _ _ _ (HP7.out.1.below HB9.out)).mono ?_; rintro e w10 ⟨aU, cU, rfl, hpU, hb10⟩)
    have HB10 : Hid (Below w7.heap.size w7 w10) := below2 HB9.out hb10
    have HPU : Hid (PartsR w10 aT n (Rc.someP fr l) ∧ PartsR w10 aU n (Rc.someP fr l)) := ⟨HPT.out.below hb10, hpU⟩
    refine ⟨HKeep.out _ HB10.out, ?_⟩
    clear hb10 hpU
    refine held_one 20 rfl (by kernel_rfl) ?_
    go_wp2_with (go_at_call 18; refine (HSa.out _ _ _ _ _ HPU.out.1 HPU.out.2).mono ?_; rintro e w11 ⟨rfl, hb11⟩)
    have HB11 : Hid (Below w7.heap.size w7 w11) := below2 HB10.out hb11
    have hS11 : (fun W : World => (W.cell? ⟨b9, 0, none⟩ = some (.int .u64 (seq : Int)) ∧ W.cell? ⟨b9, 1, none⟩ = some (.int .i64 (row : Int)) ∧ W.cell? ⟨b9, 2, none⟩ = some (.slice a1 n c1)) ∧ (W.cell? ⟨b13, 0, none⟩ = some (.int .u64 (seq : Int)) ∧ W.cell? ⟨b13, 1, none⟩ = some (.int .i64 (row : Int)) ∧ W.cell? ⟨b13, 2, none⟩ = some (.slice a4 n c4)) ∧ (W.cell? ⟨b15, 0, none⟩ = some (.int .u64 (seq : Int)) ∧ W.cell? ⟨b15, 1, none⟩ = some (.int .i64 (row : Int)) ∧ W.cell? ⟨b15, 2, none⟩ = some (.slice a6 n c6)) ∧ Below w7.heap.size w7 W) w11 := HKeep.out _ HB11.out
    refine ⟨hS11, ?_⟩
    clear hb11
    refine held_quiet 21 (v := ?v21q18) rfl (by kernel_rfl) (fun _ _ _ h => h) (by assumption) rfl ?hy21q18 ?rest21q18
    case hy21q18 => (intro wS hSw; (try dsimp only at hSw); go_simp; try with_reducible rfl)
    try simp only [Act.put, List.setIfInBounds_toArray, List.set_cons_zero, List.set_cons_succ]
    refine held_quiet 22 (v := ?v22q19) rfl (by kernel_rfl) (fun _ _ _ h => h) (by assumption) rfl ?hy22q19 ?rest22q19
    case hy22q19 => (intro wS hSw; (try dsimp only at hSw); go_simp; try with_reducible rfl)
    try simp only [Act.put, List.setIfInBounds_toArray, List.set_cons_zero, List.set_cons_succ]
    refine held_quiet 23 (v := ?v23q20) rfl (by kernel_rfl) (fun _ _ _ h => h) (by assumption) rfl ?hy23q20 ?rest23q20
    case hy23q20 => (intro wS hSw; (try dsimp only at hSw); go_simp; try with_reducible rfl)
    try simp only [Act.put, List.setIfInBounds_toArray, List.set_cons_zero, List.set_cons_succ]
    refine held_quiet 24 (v := ?v24q21) rfl (by kernel_rfl) (fun _ _ _ h => h) (by assumption) rfl ?hy24q21 ?rest24q21
    case hy24q21 => (intro wS hSw; (try dsimp only at hSw); go_simp; try with_reducible rfl)
    try simp only [Act.put, List.setIfInBounds_toArray, List.set_cons_zero, List.set_cons_succ]
    refine held_quiet 25 (v := ?v25q22) rfl (by kernel_rfl) (fun _ _ _ h => h) (by assumption) rfl ?hy25q22 ?rest25q22
    case hy25q22 => (intro wS hSw; (try dsimp only at hSw); go_simp; try with_reducible rfl)
    try simp only [Act.put, List.setIfInBounds_toArray, List.set_cons_zero, List.set_cons_succ]
    refine held_quiet 26 (v := ?v26q23) rfl (by kernel_rfl) (fun _ _ _ h => h) (by assumption) rfl ?hy26q23 ?rest26q23
    case hy26q23 => (intro wS hSw; (try dsimp only at hSw); go_simp; try with_reducible rfl)
    try simp only [Act.put, List.setIfInBounds_toArray, List.set_cons_zero, List.set_cons_succ]
    refine held_quiet 27 (v := ?v27q24) rfl (by kernel_rfl) (fun _ _ _ h => h) (by assumption) rfl ?hy27q24 ?rest27q24
    case hy27q24 => (intro wS hSw; (try dsimp only at hSw); go_simp; try with_reducible rfl)
    try simp only [Act.put, List.setIfInBounds_toArray, List.set_cons_zero, List.set_cons_succ]
    refine held_quiet 28 (v := ?v28q25) rfl (by kernel_rfl) (fun _ _ _ h => h) (by assumption) rfl ?hy28q25 ?rest28q25
    case hy28q25 => (intro wS hSw; (try dsimp only at hSw); go_simp; try with_reducible rfl)
    try simp only [Act.put, List.setIfInBounds_toArray, List.set_cons_zero, List.set_cons_succ]
    refine held_quiet 29 (v := ?v29q26) rfl (by kernel_rfl) (fun _ _ _ h => h) (by assumption) rfl ?hy29q26 ?rest29q26
    case hy29q26 => (intro wS hSw; (try dsimp only at hSw); go_simp; try with_reducible rfl)
    try simp only [Act.put, List.setIfInBounds_toArray, List.set_cons_zero, List.set_cons_succ]
    refine held_quiet 30 (v := ?v30q27) rfl (by kernel_rfl) (fun _ _ _ h => h) (by assumption) rfl ?hy30q27 ?rest30q27
    case hy30q27 => (intro wS hSw; (try dsimp only at hSw); go_simp; try with_reducible rfl)
    try simp only [Act.put, List.setIfInBounds_toArray, List.set_cons_zero, List.set_cons_succ]
    refine held_quiet 31 (v := ?v31q28) rfl (by kernel_rfl) (fun _ _ _ h => h) (by assumption) rfl ?hy31q28 ?rest31q28
    case hy31q28 => (intro wS hSw; (try dsimp only at hSw); go_simp; try with_reducible rfl)
    try simp only [Act.put, List.setIfInBounds_toArray, List.set_cons_zero, List.set_cons_succ]
    refine held_quiet 32 (v := ?v32q29) rfl (by kernel_rfl) (fun _ _ _ h => h) (by assumption) rfl ?hy32q29 ?rest32q29
    case hy32q29 => (intro wS hSw; (try dsimp only at hSw); go_simp; try with_reducible rfl)
    try simp only [Act.put, List.setIfInBounds_toArray, List.set_cons_zero, List.set_cons_succ]
    refine held_quiet 33 (v := ?v33q30) rfl (by kernel_rfl) (fun _ _ _ h => h) (by assumption) rfl ?hy33q30 ?rest33q30
    case hy33q30 => (intro wS hSw; (try dsimp only at hSw); go_simp; try with_reducible rfl)
    try simp only [Act.put, List.setIfInBounds_toArray, List.set_cons_zero, List.set_cons_succ]
    refine held_quiet 34 (v := ?v34q31) rfl (by kernel_rfl) (fun _ _ _ h => h) (by assumption) rfl ?hy34q31 ?rest34q31
    case hy34q31 => (intro wS hSw; (try dsimp only at hSw); go_simp; try with_reducible rfl)
    try simp only [Act.put, List.setIfInBounds_toArray, List.set_cons_zero, List.set_cons_succ]
    refine held_quiet 35 (v := ?v35q32) rfl (by kernel_rfl) (fun _ _ _ h => h) (by assumption) rfl ?hy35q32 ?rest35q32
    case hy35q32 => (intro wS hSw; (try dsimp only at hSw); go_simp; try with_reducible rfl)
    try simp only [Act.put, List.setIfInBounds_toArray, List.set_cons_zero, List.set_cons_succ]
    refine held_quiet 36 (v := ?v36q33) rfl (by kernel_rfl) (fun _ _ _ h => h) (by assumption) rfl ?hy36q33 ?rest36q33
    case hy36q33 => (intro wS hSw; (try dsimp only at hSw); go_simp; try with_reducible rfl)
    try simp only [Act.put, List.setIfInBounds_toArray, List.set_cons_zero, List.set_cons_succ]
    refine held_quiet 37 (v := ?v37q34) rfl (by kernel_rfl) (fun _ _ _ h => h) (by assumption) rfl ?hy37q34 ?rest37q34
    case hy37q34 => (intro wS hSw; (try dsimp only at hSw); go_simp; try with_reducible rfl)
    try simp only [Act.put, List.setIfInBounds_toArray, List.set_cons_zero, List.set_cons_succ]
    refine held_quiet 38 (v := ?v38q35) rfl (by kernel_rfl) (fun _ _ _ h => h) (by assumption) rfl ?hy38q35 ?rest38q35
    case hy38q35 => (intro wS hSw; (try dsimp only at hSw); go_simp; try with_reducible rfl)
    try simp only [Act.put, List.setIfInBounds_toArray, List.set_cons_zero, List.set_cons_succ]
    refine held_quiet 39 (v := ?v39q36) rfl (by kernel_rfl) (fun _ _ _ h => h) (by assumption) rfl ?hy39q36 ?rest39q36
    case hy39q36 => (intro wS hSw; (try dsimp only at hSw); go_simp; try with_reducible rfl)
    try simp only [Act.put, List.setIfInBounds_toArray, List.set_cons_zero, List.set_cons_succ]
    refine held_quiet 40 (v := ?v40q37) rfl (by kernel_rfl) (fun _ _ _ h => h) (by assumption) rfl ?hy40q37 ?rest40q37
    case hy40q37 => (intro wS hSw; (try dsimp only at hSw); go_simp; try with_reducible rfl)
    try simp only [Act.put, List.setIfInBounds_toArray, List.set_cons_zero, List.set_cons_succ]
    refine held_quiet 41 (v := ?v41q38) rfl (by kernel_rfl) (fun _ _ _ h => h) (by assumption) rfl ?hy41q38 ?rest41q38
    case hy41q38 => (intro wS hSw; (try dsimp only at hSw); go_simp; try with_reducible rfl)
    try simp only [Act.put, List.setIfInBounds_toArray, List.set_cons_zero, List.set_cons_succ]
    refine held_quiet 42 (v := ?v42q39) rfl (by kernel_rfl) (fun _ _ _ h => h) (by assumption) rfl ?hy42q39 ?rest42q39
    case hy42q39 => (intro wS hSw; (try dsimp only at hSw); go_simp; try with_reducible rfl)
    try simp only [Act.put, List.setIfInBounds_toArray, List.set_cons_zero, List.set_cons_succ]
    refine held_quiet 43 (v := ?v43q40) rfl (by kernel_rfl) (fun _ _ _ h => h) (by assumption) rfl ?hy43q40 ?rest43q40
    case hy43q40 => (intro wS hSw; (try dsimp only at hSw); go_simp; try with_reducible rfl)
    try simp only [Act.put, List.setIfInBounds_toArray, List.set_cons_zero, List.set_cons_succ]
    clear hS11
    refine held_done (by kernel_rfl) ?_
    have HR11 : Hid (RowS w11 aL n (fun j => (Rc.someP fr l j).data)) := HR7.out.below HB11.out
    obtain ⟨aS, hsl, hrS⟩ := row_tail HR11.out n1 hcL
    have HRS : Hid (RowS w11 aS (n - 1) (fun j => (Rc.someP fr l (j + 1)).data)) := hrS
    have HBw : Hid (Below w'.heap.size w' w11) := below2 HB7.out HB11.out
    clear hrS
    go_wp2_with fail
    refine (HDs.out _ _ _ _ (fun j _ => H64.out (j + 1)) (by have := HcL.out; omega) HRS.out).mono ?_
    rintro e w12 ⟨q, r, a12, m12, c12, rfl, hb12⟩
    have HB12 : Hid (Below w'.heap.size w' w12) := below2 HBw.out hb12
    clear hb12 hsl
    go_wp2
    go_ret
    exact ⟨rfl, HB12.out.alloc HB12.out.size _⟩

set_option maxRecDepth 100000 in
set_option maxHeartbeats 4000000 in
/-- RecordBack, over what is asked of the program -/
theorem back12_says (X : RecSays) (seq row fr : Nat) (a : Option Addr) (n cap : Nat) (l : Nat → ByteArray) (w : World) (h0 : seq < 18446744073709551616) (h1 : row < 256) (h2 : fr < 256) (hr : RowS w a n l) (hm : ∀ j, j < n → (l j).size ≤ maxLen) (hn : n ≤ maxLen) :
    Calls Tryd.prog 4 #[.int .u64 (seq : Int), .int .u8 (row : Int), .int .u8 (fr : Int), .slice a n cap] w fun e w' => e = .returned (.bool true) ∧ Below w.heap.size w w' := by
  by_cases hb : (1 ≤ n ∧ n ≤ 40) ∧ ∀ j, j < n → (l j).size ≤ 100
  · exact back12_main X seq row fr a n cap l w h0 h1 h2 hr hb.1.1 hb.1.2 hb.2
  have hheavy := heavy12_any w a n cap l hr hm hn
  have hsh := fun W => shown12_any X W
  have HSh : Hid _ := hsh
  have HNb : Hid (¬ ((1 ≤ n ∧ n ≤ 40) ∧ ∀ j, j < n → (l j).size ≤ 100)) := hb
  clear hr hsh hb hm hn
  by_cases hk1 : (40 : Int) < (n : Int)
  · go_enter Tryd.func4, Tryd.ntmps4
    go_wp2_with fail
    refine hheavy.mono ?_
    rintro e w' ⟨rfl, hcase⟩
    rcases hcase with rfl | ⟨rfl, _⟩
    all_goals
      go_wp2_with fail
      refine (HSh.out _).mono ?_
      rintro e w2 ⟨rfl, hb⟩
      have HB : Hid _ := hb
      clear hb
      go_wp2
      go_ret
      exact ⟨rfl, HB.out⟩
  · by_cases hk0 : n = 0
    · subst hk0
      go_enter Tryd.func4, Tryd.ntmps4
      go_wp2_with fail
      refine hheavy.mono ?_
      rintro e w' ⟨rfl, hcase⟩
      rcases hcase with rfl | ⟨rfl, _⟩
      all_goals
        go_wp2_with fail
        refine (HSh.out _).mono ?_
        rintro e w2 ⟨rfl, hb⟩
        have HB : Hid _ := hb
        clear hb
        go_wp2
        go_ret
        exact ⟨rfl, HB.out⟩
    · have hk2 : ((n : Int) == 0) = false := by rw [beq_eq_false_iff_ne]; omega
      go_enter Tryd.func4, Tryd.ntmps4
      go_wp2_with fail
      refine hheavy.mono ?_
      rintro e w' ⟨rfl, hcase⟩
      rcases hcase with rfl | ⟨rfl, hl⟩
      · go_wp2_with fail
        refine (HSh.out _).mono ?_
        rintro e w2 ⟨rfl, hb⟩
        have HB : Hid _ := hb
        clear hb
        go_wp2
        go_ret
        exact ⟨rfl, HB.out⟩
      · exact absurd ⟨⟨by omega, by omega⟩, hl.2⟩ HNb.out
theorem back12_walk (X : RecSays) (w : World) (a0 : Int) (w0 : (Lit.int .u64 a0).wf = true) (a1 : Int) (w1 : (Lit.int .u8 a1).wf = true) (a2 : Int) (w2 : (Lit.int .u8 a2).wf = true) (a3 : Option Addr) (len3 cap3 : Nat) (z3 : List ByteArray) (w3 : IsStrs w a3 len3 cap3 z3) :
    Calls Tryd.prog 4 #[.int .u64 a0, .int .u8 a1, .int .u8 a2, .slice a3 len3 cap3] w fun e w' => e = .returned (.bool true) ∧ Below w.heap.size w w' := by
  obtain ⟨s, rfl, h0⟩ := nat12_u64 w0
  obtain ⟨r, rfl, h1⟩ := nat12_u8 w1
  obtain ⟨f, rfl, h2⟩ := nat12_u8 w2
  obtain ⟨l, hm, hs, hr⟩ := w3.open12
  exact back12_says X s r f a3 len3 cap3 l w h0 h1 h2 hr hs hm
end Go.Proofs.YtmikllmpinciiaaDoor
namespace Go.Proofs.YtmikllmpinciiaaDoor.recordBack
open Go.ChangeShapes Go.WideShapes Go.ChangeAt Go.RowKit
open Go.ChangeMaps (open_string shut_string)

theorem of_laid {W : World} (_ : laidMetH Tryd.prog Rows.recordBackRow.laid W) : True := trivial
theorem walk (w : World) (a0 : Int) (w0 : (Lit.int .u64 a0).wf = true) (a1 : Int) (w1 : (Lit.int .u8 a1).wf = true) (a2 : Int) (w2 : (Lit.int .u8 a2).wf = true) (a3 : Option Addr) (len3 cap3 : Nat) (z3 : List ByteArray) (w3 : IsStrs w a3 len3 cap3 z3) (_ : True) :
    Calls Tryd.prog 4 #[.int .u64 a0, .int .u8 a1, .int .u8 a2, .slice a3 len3 cap3] w fun e w' => e = .returned (.bool true) ∧ Below w.heap.size w w' := back12_walk rec_says w a0 w0 a1 w1 a2 w2 a3 len3 cap3 z3 w3

theorem own : ownKnob Tryd.prog.godebug = none := by kernel_rfl
theorem laidOut : laidOutB Tryd.prog = true := by kernel_rfl
theorem door_met (os : Os) (args : Array Value) : laidMetH Tryd.prog Rows.recordBackRow.laid ((World.laidAll Tryd.prog os Rows.recordBackRow.laid).forCall (fun _ _ => 0) ⟨#[], args, []⟩).memory := by
  rw [MakeChecks.laidMetH_plain _ _ _ (by kernel_rfl)]
  exact laidMet_laidAll _ (by kernel_rfl) (by kernel_rfl)
set_option linter.unusedVariables false in
set_option maxRecDepth 100000 in
theorem lifted (os : Os) (started : os.Started) (H : Type) (enc : TypeId × Value → H) :
    ReturnsInHanded {} Tryd.checked os 4 .any (fun w args => (Rows.recordBackSpec.pre enc Tryd.prog Tryd.f4 [] false w args ∧ laidMetH Tryd.prog Rows.recordBackRow.laid w) ∧ sizedMet enc Tryd.prog Tryd.f4 (OpenSpec.ofChange Rows.recordBackSpec) false w args) (Rows.recordBackSpec.post enc Tryd.prog Tryd.f4 false true false false) := by
  refine returnsInHanded_of_change_and (C := Tryd.checked) (X := fun w _ => laidMetH Tryd.prog Rows.recordBackRow.laid w) (fun _ _ _ hh h => h.of_heap hh) own started (by kernel_rfl) Tryd.func4
    (ChangeSpec.witness_shaped (enc := enc) (C := Tryd.checked) (os := os) (X := fun w _ => laidMetH Tryd.prog Rows.recordBackRow.laid w) false (World.laidAll Tryd.prog os Rows.recordBackRow.laid) #[.int .u64 0, .int .u8 0, .int .u8 0, .slice none 0 0] 8 (World.laidAll_os _ _ _) (World.shaped_of_ZipB (by kernel_rfl) (by kernel_rfl)) (by kernel_rfl) (by kernel_rfl) (by kernel_rfl) (door_met os _)) ?_
  intro W base args ds gs before hval0 hW _ _ hL _
  have hval : ∀ (j : Nat) t v, Tryd.f4.params[j]? = some t → args[j]? = some v → Value.okWide Tryd.prog W .any base t v := hval0
  have hW' := hW
  obtain ⟨p, q, hA0, hV, rfl, hfz, hnd⟩ := hW
  have hA : DataW.TrodAll enc Tryd.prog W 0 (fun _ => true) true Tryd.f4.params.toList args.toList ds p := hA0
  rw [Tryd.params4] at hA hval
  obtain ⟨v0, vs0, d0, ds0, p0, q0, hargs, rfl, rfl, h0, r0⟩ := trodAll_cons hA
  obtain ⟨v1, vs1, d1, ds1, p1, q1, rfl, rfl, rfl, h1, r1⟩ := trodAll_cons r0
  obtain ⟨v2, vs2, d2, ds2, p2, q2, rfl, rfl, rfl, h2, r2⟩ := trodAll_cons r1
  obtain ⟨v3, vs3, d3, ds3, p3, q3, rfl, rfl, rfl, h3, r3⟩ := trodAll_cons r2
  obtain ⟨rfl, rfl, rfl⟩ := trodAll_nil r3
  obtain rfl : args = #[v0, v1, v2, v3] := by cases args; simp_all
  obtain ⟨rfl, rfl⟩ := trodVars_none hV
  obtain ⟨a0, rfl, rfl, rfl, w0⟩ := open_int Tryd.underlying22 (hval 0 22 v0 rfl rfl) h0
  obtain ⟨a1, rfl, rfl, rfl, w1⟩ := open_int Tryd.underlying5 (hval 1 5 v1 rfl rfl) h1
  obtain ⟨a2, rfl, rfl, rfl, w2⟩ := open_int Tryd.underlying5 (hval 2 5 v2 rfl rfl) h2
  obtain ⟨a3, len3, cap3, rfl⟩ := okWide_slice Tryd.underlying26 (hval 3 26 v3 rfl rfl)
  have k3 := h3
  have lt3 : ∀ x ∈ p3, x.block < W.heap.size := by obtain ⟨m, hm⟩ := k3; exact DataW.trod_lt m _ _ _ hm
  obtain ⟨z3, w3⟩ : ∃ zs, IsStrs W a3 len3 cap3 zs := by
    obtain ⟨fuel, hf⟩ := h3
    rcases open_strings Tryd.underlying26 Tryd.underlying9 (by kernel_rfl) hf with ⟨hcs, _⟩ | ⟨x, l, c, zs, hcs, _, hl, hm, hz, _, hcell, hwz⟩
    · simp [Value.cells] at hcs
      obtain ⟨rfl, rfl, rfl⟩ := hcs
      exact ⟨[], .inl ⟨rfl, rfl, rfl, rfl⟩⟩
    · simp [Value.cells] at hcs
      obtain ⟨rfl, rfl, rfl⟩ := hcs
      exact ⟨zs, .inr ⟨_, rfl, hl, hm, by simpa using hz, hcell, hwz⟩⟩
  clear hA0 hval0
  simp only [List.append_nil] at hW'
  refine (walk W a0 w0 a1 w1 a2 w2 a3 len3 cap3 z3 w3 (of_laid hL)).mono fun e W' ⟨he, hg⟩ => ?_
  subst he
  exact ⟨_, rfl, _, _, _, [], _, [], hW', trodAll_mk1 (shut_bool Tryd.underlying4 _), (trodAll_cons_mk (shut_int Tryd.underlying22 w0) (trodAll_cons_mk (shut_int Tryd.underlying5 w1) (trodAll_cons_mk (shut_int Tryd.underlying5 w2) (trodAll_cons_mk (Below.trod laidOut (by kernel_rfl) (of_decide_eq_true (by kernel_rfl)) k3 hg lt3) trodAll_mk0)))), rfl, hg.frame _, fun h => by cases h⟩
/-- The row: for every input, where the listed tables read as their initialisers lay them, the law returns true, and each argument reads as it did. -/
theorem row_proved : Rows.RecordBackSaid :=
  OpenClaim.holds_of_wide 4 Tryd.f4 rfl rfl rfl rfl rfl rfl rfl ⟨rfl, rfl, rfl, rfl, rfl⟩ rfl rfl rfl rfl rfl (by kernel_rfl) Tryd.func4 (by kernel_rfl)
    (of_decide_eq_true (by kernel_rfl)) (by unfold Func.isWrapper; first | (rw [if_pos (by decide +kernel)]; kernel_rfl) | (rw [if_neg (by decide +kernel)]; exact ⟨rfl, rfl⟩))
    (fun os started H enc _ => lifted os started H enc)
/-- For every input the law returns true, and each argument reads as it did; what the listed tables hold is tied to the program's text. -/
theorem proved : Rows.RecordBackCardSaid :=
  Claim7.holds_tied_plain_at .later [] [.data, .pinned] true (true, "1ae6a37698d2e24b5c769eff56949aa43403232362c262ec4616dca1f2bd7c63") false
    row_proved (fun _ h => by cases h) (by kernel_rfl) (fun _ h => by cases h) recordBack_row_tie rfl ⟨rfl, rfl⟩ (by kernel_rfl) rfl
    (fun f fn hf hfn => by
      obtain rfl : f = 4 := Option.some.inj ((show Tryd.prog.funcNamed "revetment/revetmentlaw12.RecordBack" = some 4 by kernel_rfl).symm.trans hf) |>.symm
      obtain rfl : fn = Tryd.f4 := (Option.some.inj (Tryd.func4.symm.trans hfn)).symm
      exact ⟨by kernel_rfl, fun j t ht => by
        rw [Tryd.params4] at ht
        have hm : t ∈ [22, 5, 5, 26] := by simpa using Array.mem_of_getElem? ht
        have hall : ([22, 5, 5, 26].all fun u => !Tryd.prog.wantsStandIn u) = true := by kernel_rfl
        exact (show Tryd.prog.wantsStandIn t = false by simpa using List.all_eq_true.1 hall t hm)⟩)
    (by kernel_rfl)
end Go.Proofs.YtmikllmpinciiaaDoor.recordBack
