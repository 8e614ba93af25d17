/- For every record, every text and every load the law RecordTells returns true: what any record comes to, and which record any bytes are, is the document's, or its error. Conditions: the library's tables that strings.Trim's code names, which the call never reads at these texts, hold what they are laid with (tied to the program's text by the card). -/
import Derived.Test.YtmikllmpinciiaaDoorRecKnown
import Derived.Test.YtmikllmpinciiaaDoorMRkB
import Derived.Test.YtmikllmpinciiaaDoorRecOpen
import Derived.Test.YtmikllmpinciiaaDoorRecInts
import Derived.Test.YtmikllmpinciiaaDoorCards
import Derived.Test.YtmikllmpinciiaaDoorTie
import Derived.ProofKit
import Derived.OpenShut
import Derived.ShutString
import Derived.Lay
import Derived.LaidOnce
import Derived.Stop.Joined
import Derived.SevenTiedAt
namespace Go.Proofs.YtmikllmpinciiaaDoor
open Go.RowKit

namespace Rc
theorem hN_le (b : ByteArray) : hN b ≤ 40 := by
  by_cases h : headE b = 0
  · exact (head_places h).2.2.2.2.1
  · unfold hN; rw [if_neg h]; decide
theorem dN_le (b : ByteArray) (m : Nat) (g : Nat → ByteArray) : dN b m g ≤ 40 := by
  unfold dN
  split
  · exact hN_le b
  · decide
end Rc
theorem box_still (w : World) (t : TypeId) (c0 c1 c2 : Value) : BoxAt (w.alloc (.cells #[c0, c1, c2] t)) w.heap.size c0 c1 c2 := BoxAt.new _ _ _ _ _

set_option maxRecDepth 100000 in
set_option maxHeartbeats 8000000 in
theorem tells12_main (X : RecSays) (seq : Nat) (row : Int) (a : Option Addr) (n cap : Nat) (f : Nat → Prt) (b : ByteArray) (aL : Option Addr) (m capL : Nat) (g : Nat → ByteArray) (w : World) (h0 : seq < 18446744073709551616) (hin : RecIn row n f) (hp : PartsR w a n f) (hl : Rc.Light12 n (fun j => (f j).data)) (hb : b.size ≤ 100) (hcm : m ≤ capL) (hr : RowS w aL m g) (hg : Rc.Light12 m g) :
    Calls Tryd.prog 3 #[.agg #[.int .u64 (seq : Int), .int .i64 row, .slice a n cap], .string b, .slice aL m capL] w fun e w' => e = .returned (.bool true) ∧ Below w.heap.size w w' := by
  obtain ⟨n50, d100⟩ := hl
  obtain ⟨m50, g100⟩ := hg
  have hLi : RecLight n f := ⟨by omega, d100⟩
  have HSh : Hid _ := fun W => shown12_any X W
  have HPa : Hid _ := fun (W : World) (hr : PartsR W a n f) => parts12_any (seq : Int) row a n cap f W (by omega) hr
  have HHv : Hid _ := fun (W : World) (a' : Option Addr) (c : Nat) (hr : RowS W a' n (fun j => (f j).data)) => heavy12_any W a' n c _ hr (fun j hj => Nat.le_trans (d100 j hj) (by unfold maxLen; decide)) (by unfold maxLen; omega)
  have HHw : Hid _ := fun (W : World) (hr : RowS W aL m g) => heavy12_any W aL m capL g hr (fun j hj => Nat.le_trans (g100 j hj) (by unfold maxLen; decide)) (by unfold maxLen; omega)
  have hen := fun (W : World) (hr : PartsR W a n f) => X.enc seq row a n cap f W h0 hin hLi hr
  have hrn := fun (W : World) (a' : Option Addr) (c : Nat) (hr : PartsR W a' n f) => rEncode12_any seq row a' n c f W h0 hin hr
  have HMp : Hid _ := fun (W : World) (hr : PartsR W a n f) => X.may seq row a n cap f W h0 hin hLi hr
  have HMr : Hid _ := fun (W : World) (a' : Option Addr) (c : Nat) (hr : PartsR W a' n f) => rMay12_any (seq : Int) row a' n c f W hin hr
  have hhp := fun W => X.head b W hb
  have hhr := fun W => rHead12_any b W
  have hdp := fun (W : World) (hr : RowS W aL m g) => X.dec b aL m capL g W hb (by omega) g100 hcm hr
  have hdr := fun (W : World) (hr : RowS W aL m g) => rDecode12_any b aL m capL g W hr
  have h40 := Rc.hN_le b
  have d40 := Rc.dN_le b m g
  have hfin : (Rc.encE row n f : Nat) = 0 ∨ (Rc.encT seq row n f = ⟨#[]⟩ ∧ Rc.encN row n f = 0 ∧ Rc.encE row n f = 1) := by
    cases h : Rc.mayB row n f with
    | true => exact .inl (Rc.enc_may (seq := seq) h).2.2
    | false => exact .inr ⟨(Rc.enc_not (seq := seq) h).1, (Rc.enc_not (seq := seq) h).2.1, (Rc.enc_not (seq := seq) h).2.2⟩
  have en60 : Rc.encN row n f ≤ 60 := by unfold Rc.encN; split <;> omega
  unfold EncOwn at hen
  unfold EncAns at hrn
  unfold HeadAns at hhp hhr
  unfold DecAns12 at hdp hdr
  obtain ⟨et, _⟩ : ∃ et, et = Rc.encT seq row n f := ⟨_, rfl⟩
  generalize Rc.encT seq row n f = et at hen hrn hfin
  generalize Rc.encN row n f = en at hen hrn hfin en60
  generalize Rc.encE row n f = ee at hen hrn hfin
  generalize Rc.hSeq b = hs at hhp hhr
  generalize Rc.hRow b = hr_ at hhp hhr
  generalize Rc.hN b = hn at hhp hhr h40
  generalize Rc.hSum b = hsum at hhp hhr
  generalize Rc.headE b = he at hhp hhr
  generalize Rc.hPart b = hP at hhp hhr
  generalize Rc.dSeq b m g = ds at hdp hdr
  generalize Rc.dRow b m g = dr at hdp hdr
  generalize Rc.dN b m g = dn at hdp hdr d40
  generalize Rc.decE b m g = de at hdp hdr
  generalize Rc.dPart b g = dP at hdp hdr
  generalize Rc.mayB row n f = my at HMp HMr
  have HEn : Hid _ := hen
  have HRn : Hid _ := hrn
  have HHp : Hid _ := hhp
  have HHr : Hid _ := hhr
  have HDp : Hid _ := hdp
  have HDr : Hid _ := hdr
  have HTh : Hid _ := fun (W : World) (s r : Int) (a' : Option Addr) (k c : Nat) (F : Nat → Prt) (hk : k * 32 ≤ 140737488355328) (hr : PartsR W a' k F) => theirs12_any s r a' k c F W hk hr
  have HTx : Hid (∀ (W : World) (a1 a2 : Option Addr) (c1 c2 : Nat), RowS W a1 en (fun j => (f j).data) → RowS W a2 en (fun j => (f j).data) → Calls Tryd.prog 17 #[.slice a1 en c1, .slice a2 en c2] W fun e w' => e = .returned (.bool true) ∧ Below W.heap.size W w') := fun W a1 a2 c1 c2 h1 h2 => by
    have q := texts12_any a1 a2 en en c1 c2 _ _ W (by omega) h1 h2
    rw [decide_eq_true rfl, (Rc.sameT_iff _ _ _).2 (fun _ _ => rfl)] at q
    exact q
  have HSa : Hid (∀ (W : World) (s : Nat) (r : Nat) (k : Nat) (F : Nat → Prt) (a1 a2 : Option Addr) (c1 c2 : Nat), k ≤ 40 → PartsR W a1 k F → PartsR W a2 k F → Calls Tryd.prog 18 #[.agg #[.int .u64 (s : Int), .int .i64 (r : Int), .slice a1 k c1], .agg #[.int .u64 (s : Int), .int .i64 (r : Int), .slice a2 k c2]] W fun e w' => e = .returned (.bool true) ∧ Below W.heap.size W w') := fun W s r k F a1 a2 c1 c2 hk h1 h2 => by
    have q := rSame12_any s s k k c1 c2 (r : Int) (r : Int) a1 a2 F F W (by omega) h1 h2
    rw [(Rc.sameR_iff _ _ _ _ _ _ _ _).2 ⟨rfl, rfl, rfl, fun _ _ => rfl⟩] at q
    exact q
  have HPr : Hid (PartsR w a n f) := hp
  have HRr : Hid (RowS w aL m g) := hr
  have HIn : Hid (n ≤ 50 ∧ hn ≤ 40 ∧ dn ≤ 40) := ⟨n50, h40, d40⟩
  have HFin : Hid _ := hfin
  have hmx : Tryd.prog.follows .mixedOrders = true := by kernel_rfl
  have HMX : Hid (Tryd.prog.follows .mixedOrders = true) := hmx
  have hkb : ¬ (100 : Int) < (b.size : Int) := by omega
  clear hen hrn hhp hhr hdp hdr hp hr hfin hmx d100 g100 hin hLi hb h40 d40
  go_enter Tryd.func3, Tryd.ntmps3
  go_upto_region 1 with fail
  have hx3 := box_still w 25 (.int .u64 (seq : Int)) (.int .i64 row) (.slice a n cap)
  have b3' : Below w.heap.size w (w.alloc (.cells #[.int .u64 (seq : Int), .int .i64 row, .slice a n cap] 25)) := (Below.refl _ w).alloc (Nat.le_refl _) _
  obtain ⟨w0, hw0⟩ : ∃ w0, w0 = w.alloc (.cells #[.int .u64 (seq : Int), .int .i64 row, .slice a n cap] 25) := ⟨_, rfl⟩
  obtain ⟨b3, hb3⟩ : ∃ b3, b3 = w.heap.size := ⟨_, rfl⟩
  rw [← hw0] at hx3 b3' ⊢
  rw [← hb3] at hx3 ⊢
  have HX0 : Hid (BoxAt w0 b3 (.int .u64 (seq : Int)) (.int .i64 row) (.slice a n cap)) := hx3
  have HB0 : Hid (Below w.heap.size w w0) := b3'
  have HP0 : Hid (PartsR w0 a n f) := HPr.out.below b3'
  have HR0 : Hid (RowS w0 aL m g) := HRr.out.below b3'
  obtain ⟨y0, y1, y2, _, _, _⟩ := hx3
  clear hw0 hb3 b3'
  go_wp2_with fail
  refine (HPa.out _ HP0.out).mono ?_
  rintro e w1 ⟨a1, c1, rfl, hr1, _, hb1⟩
  have HX1 : Hid (BoxAt w1 b3 (.int .u64 (seq : Int)) (.int .i64 row) (.slice a n cap)) := HX0.out.below hb1 HX0.out.lt
  have HB1 : Hid (Below w.heap.size w w1) := below2 HB0.out hb1
  have HP1 : Hid (PartsR w1 a n f) := HP0.out.below hb1
  have HR1 : Hid (RowS w1 aL m g) := HR0.out.below hb1
  have HQ1 : Hid (RowS w1 a1 n (fun j => (f j).data)) := hr1
  clear hb1 hr1 y0 y1 y2
  go_wp2_with fail
  refine (HHv.out _ _ _ HQ1.out).mono ?_
  rintro e w' ⟨rfl, hcase⟩
  rcases hcase with rfl | ⟨rfl, _⟩
  · go_wp2_with fail
    refine (HSh.out _).mono ?_
    rintro e w2 ⟨rfl, hb⟩
    have HB : Hid (Below w.heap.size w w2) := below2 HB1.out hb
    clear hb
    go_wp2
    go_ret
    exact ⟨rfl, HB.out⟩
  · go_wp2_with fail
    refine (HHw.out _ HR1.out).mono ?_
    rintro e wB ⟨rfl, hcase⟩
    rcases hcase with rfl | ⟨rfl, _⟩
    · go_wp2_with fail
      refine (HSh.out _).mono ?_
      rintro e w2 ⟨rfl, hb⟩
      have HB : Hid (Below w.heap.size w w2) := below2 HB1.out hb
      clear hb
      go_wp2
      go_ret
      exact ⟨rfl, HB.out⟩
    · go_wp2_with fail
      refine (HSh.out _).mono ?_
      rintro e w2 ⟨rfl, hb2⟩
      have HX2 : Hid (BoxAt w2 b3 (.int .u64 (seq : Int)) (.int .i64 row) (.slice a n cap)) := HX1.out.below hb2 HX1.out.lt
      have HB2 : Hid (Below w.heap.size w w2) := below2 HB1.out hb2
      have HP2 : Hid (PartsR w2 a n f) := HP1.out.below hb2
      have HR2 : Hid (RowS w2 aL m g) := HR1.out.below hb2
      obtain ⟨y0, y1, y2, _, _, _⟩ := HX2.out
      clear hb2
      go_wp2_with fail
      refine (HEn.out _ HP2.out).mono ?_
      rintro e w3 ⟨v3, rfl, hown, hb3⟩
      obtain ⟨a3, c3, rfl, hr3, _, _⟩ := RowS.of_owns hown
      have HX3 : Hid (BoxAt w3 b3 (.int .u64 (seq : Int)) (.int .i64 row) (.slice a n cap)) := HX2.out.below hb3 HX2.out.lt
      have HB3 : Hid (Below w.heap.size w w3) := below2 HB2.out hb3
      have HP3 : Hid (PartsR w3 a n f) := HP2.out.below hb3
      have HR3 : Hid (RowS w3 aL m g) := HR2.out.below hb3
      have HT3 : Hid (RowS w3 a3 en (fun j => (f j).data)) := hr3
      clear hb3 hown hr3 y0 y1 y2
      obtain ⟨y0, y1, y2, _, _, _⟩ := HX3.out
      go_wp2_with fail
      refine (HTh.out _ _ _ _ _ _ _ (by have := HIn.out; omega) HP3.out).mono ?_
      rintro e w4 ⟨a4, c4, rfl, hp4, hb4⟩
      have HX4 : Hid (BoxAt w4 b3 (.int .u64 (seq : Int)) (.int .i64 row) (.slice a n cap)) := HX3.out.below hb4 HX3.out.lt
      have HB4 : Hid (Below w.heap.size w w4) := below2 HB3.out hb4
      have HP4 : Hid (PartsR w4 a n f ∧ PartsR w4 a4 n f) := ⟨HP3.out.below hb4, hp4⟩
      have HR4 : Hid (RowS w4 aL m g) := HR3.out.below hb4
      have HT4 : Hid (RowS w4 a3 en (fun j => (f j).data)) := HT3.out.below hb4
      clear hb4 hp4 y0 y1 y2
      go_wp2_with fail
      refine (HRn.out _ _ _ HP4.out.2).mono ?_
      rintro e w5 ⟨aE, cE, rfl, hrE, hb5⟩
      have HX5 : Hid (BoxAt w5 b3 (.int .u64 (seq : Int)) (.int .i64 row) (.slice a n cap)) := HX4.out.below hb5 HX4.out.lt
      have HB5 : Hid (Below w.heap.size w w5) := below2 HB4.out hb5
      have HP5 : Hid (PartsR w5 a n f) := HP4.out.1.below hb5
      have HR5 : Hid (RowS w5 aL m g) := HR4.out.below hb5
      have HT5 : Hid (RowS w5 a3 en (fun j => (f j).data) ∧ RowS w5 aE en (fun j => (f j).data)) := ⟨HT4.out.below hb5, hrE⟩
      clear hb5 hrE
      go_wp2_with fail
      refine (HHp.out _).mono ?_
      rintro e w6 ⟨a5, c5, rfl, hp6, hb6⟩
      go_upto_region 6 with fail
      obtain ⟨hx13, b13'⟩ := box_new12 w6 25 (.int .u64 (hs : Int)) (.int .i64 (hr_ : Int)) (.slice a5 hn c5)
      obtain ⟨w7, hw7⟩ : ∃ w7, w7 = w6.alloc (.cells #[.int .u64 (hs : Int), .int .i64 (hr_ : Int), .slice a5 hn c5] 25) := ⟨_, rfl⟩
      obtain ⟨b13, hb13⟩ : ∃ b13, b13 = w6.heap.size := ⟨_, rfl⟩
      rw [← hw7] at hx13 b13' ⊢
      rw [← hb13] at hx13 ⊢
      have b67 : Below w5.heap.size w5 w7 := below2 hb6 b13'
      have HX7 : Hid (BoxAt w7 b3 (.int .u64 (seq : Int)) (.int .i64 row) (.slice a n cap) ∧ BoxAt w7 b13 (.int .u64 (hs : Int)) (.int .i64 (hr_ : Int)) (.slice a5 hn c5)) := ⟨HX5.out.below b67 HX5.out.lt, hx13⟩
      have HB7 : Hid (Below w.heap.size w w7) := below2 HB5.out b67
      have HP7 : Hid (PartsR w7 a n f ∧ PartsR w7 a5 hn hP) := ⟨HP5.out.below b67, hp6.below b13'⟩
      have HR7 : Hid (RowS w7 aL m g) := HR5.out.below b67
      have HT7 : Hid (RowS w7 a3 en (fun j => (f j).data) ∧ RowS w7 aE en (fun j => (f j).data)) := ⟨HT5.out.1.below b67, HT5.out.2.below b67⟩
      clear hw7 hb13 b13' hx13 hb6 hp6 b67
      go_wp2_with fail
      refine (HHr.out _).mono ?_
      rintro e w8 ⟨a6, c6, rfl, hp8, hb8⟩
      go_upto_region 7 with fail
      obtain ⟨hx16, b16'⟩ := box_new12 w8 36 (.int .u64 (hs : Int)) (.int .i64 (hr_ : Int)) (.slice a6 hn c6)
      obtain ⟨w9, hw9⟩ : ∃ w9, w9 = w8.alloc (.cells #[.int .u64 (hs : Int), .int .i64 (hr_ : Int), .slice a6 hn c6] 36) := ⟨_, rfl⟩
      obtain ⟨b16, hb16⟩ : ∃ b16, b16 = w8.heap.size := ⟨_, rfl⟩
      rw [← hw9] at hx16 b16' ⊢
      rw [← hb16] at hx16 ⊢
      have b79 : Below w7.heap.size w7 w9 := below2 hb8 b16'
      have HX9 : Hid (BoxAt w9 b3 (.int .u64 (seq : Int)) (.int .i64 row) (.slice a n cap) ∧ BoxAt w9 b13 (.int .u64 (hs : Int)) (.int .i64 (hr_ : Int)) (.slice a5 hn c5) ∧ BoxAt w9 b16 (.int .u64 (hs : Int)) (.int .i64 (hr_ : Int)) (.slice a6 hn c6)) := ⟨HX7.out.1.below b79 HX7.out.1.lt, HX7.out.2.below b79 HX7.out.2.lt, hx16⟩
      have HB9 : Hid (Below w.heap.size w w9) := below2 HB7.out b79
      have HP9 : Hid (PartsR w9 a n f ∧ PartsR w9 a5 hn hP ∧ PartsR w9 a6 hn hP) := ⟨HP7.out.1.below b79, HP7.out.2.below b79, hp8.below b16'⟩
      have HR9 : Hid (RowS w9 aL m g) := HR7.out.below b79
      have HT9 : Hid (RowS w9 a3 en (fun j => (f j).data) ∧ RowS w9 aE en (fun j => (f j).data)) := ⟨HT7.out.1.below b79, HT7.out.2.below b79⟩
      clear hw9 hb16 b16' hx16 hb8 hp8 b79
      go_wp2_with fail
      refine (HDp.out _ HR9.out).mono ?_
      rintro e w10 ⟨a7, c7, rfl, hp10, hb10⟩
      go_upto_region 8 with fail
      obtain ⟨hx19, b19'⟩ := box_new12 w10 25 (.int .u64 (ds : Int)) (.int .i64 (dr : Int)) (.slice a7 dn c7)
      obtain ⟨w11, hw11⟩ : ∃ w11, w11 = w10.alloc (.cells #[.int .u64 (ds : Int), .int .i64 (dr : Int), .slice a7 dn c7] 25) := ⟨_, rfl⟩
      obtain ⟨b19, hb19⟩ : ∃ b19, b19 = w10.heap.size := ⟨_, rfl⟩
      rw [← hw11] at hx19 b19' ⊢
      rw [← hb19] at hx19 ⊢
      have b911 : Below w9.heap.size w9 w11 := below2 hb10 b19'
      have HX11 : Hid (BoxAt w11 b3 (.int .u64 (seq : Int)) (.int .i64 row) (.slice a n cap) ∧ BoxAt w11 b13 (.int .u64 (hs : Int)) (.int .i64 (hr_ : Int)) (.slice a5 hn c5) ∧ BoxAt w11 b16 (.int .u64 (hs : Int)) (.int .i64 (hr_ : Int)) (.slice a6 hn c6) ∧ BoxAt w11 b19 (.int .u64 (ds : Int)) (.int .i64 (dr : Int)) (.slice a7 dn c7)) := ⟨HX9.out.1.below b911 HX9.out.1.lt, HX9.out.2.1.below b911 HX9.out.2.1.lt, HX9.out.2.2.below b911 HX9.out.2.2.lt, hx19⟩
      have HB11 : Hid (Below w.heap.size w w11) := below2 HB9.out b911
      have HP11 : Hid (PartsR w11 a n f ∧ PartsR w11 a5 hn hP ∧ PartsR w11 a6 hn hP ∧ PartsR w11 a7 dn dP) := ⟨HP9.out.1.below b911, HP9.out.2.1.below b911, HP9.out.2.2.below b911, hp10.below b19'⟩
      have HR11 : Hid (RowS w11 aL m g) := HR9.out.below b911
      have HT11 : Hid (RowS w11 a3 en (fun j => (f j).data) ∧ RowS w11 aE en (fun j => (f j).data)) := ⟨HT9.out.1.below b911, HT9.out.2.below b911⟩
      clear hw11 hb19 b19' hx19 hb10 hp10 b911
      go_wp2_with fail
      refine (HDr.out _ HR11.out).mono ?_
      rintro e w12 ⟨a8, c8, rfl, hp12, hb12⟩
      go_upto_region 9 with fail
      obtain ⟨hx21, b21'⟩ := box_new12 w12 36 (.int .u64 (ds : Int)) (.int .i64 (dr : Int)) (.slice a8 dn c8)
      obtain ⟨w14, hw14⟩ : ∃ w14, w14 = w12.alloc (.cells #[.int .u64 (ds : Int), .int .i64 (dr : Int), .slice a8 dn c8] 36) := ⟨_, rfl⟩
      obtain ⟨b21, hb21⟩ : ∃ b21, b21 = w12.heap.size := ⟨_, rfl⟩
      rw [← hw14] at hx21 b21' ⊢
      rw [← hb21] at hx21 ⊢
      have b1114 : Below w11.heap.size w11 w14 := below2 hb12 b21'
      have HX14 : Hid (BoxAt w14 b3 (.int .u64 (seq : Int)) (.int .i64 row) (.slice a n cap) ∧ BoxAt w14 b13 (.int .u64 (hs : Int)) (.int .i64 (hr_ : Int)) (.slice a5 hn c5) ∧ BoxAt w14 b16 (.int .u64 (hs : Int)) (.int .i64 (hr_ : Int)) (.slice a6 hn c6) ∧ BoxAt w14 b19 (.int .u64 (ds : Int)) (.int .i64 (dr : Int)) (.slice a7 dn c7) ∧ BoxAt w14 b21 (.int .u64 (ds : Int)) (.int .i64 (dr : Int)) (.slice a8 dn c8)) := ⟨HX11.out.1.below b1114 HX11.out.1.lt, HX11.out.2.1.below b1114 HX11.out.2.1.lt, HX11.out.2.2.1.below b1114 HX11.out.2.2.1.lt, HX11.out.2.2.2.below b1114 HX11.out.2.2.2.lt, hx21⟩
      have HB14 : Hid (Below w.heap.size w w14) := below2 HB11.out b1114
      have HP14 : Hid (PartsR w14 a n f ∧ PartsR w14 a5 hn hP ∧ PartsR w14 a6 hn hP ∧ PartsR w14 a7 dn dP ∧ PartsR w14 a8 dn dP) := ⟨HP11.out.1.below b1114, HP11.out.2.1.below b1114, HP11.out.2.2.1.below b1114, HP11.out.2.2.2.below b1114, hp12.below b21'⟩
      have HT14 : Hid (RowS w14 a3 en (fun j => (f j).data) ∧ RowS w14 aE en (fun j => (f j).data)) := ⟨HT11.out.1.below b1114, HT11.out.2.below b1114⟩
      clear hw14 hb21 b21' hx21 hb12 hp12 b1114
      have hkeep : ∀ W, Below w14.heap.size w14 W → (W.cell? ⟨b3, 0, none⟩ = some (.int .u64 (seq : Int)) ∧ W.cell? ⟨b3, 1, none⟩ = some (.int .i64 row) ∧ W.cell? ⟨b3, 2, none⟩ = some (.slice a n cap)) ∧ (W.cell? ⟨b13, 0, none⟩ = some (.int .u64 (hs : Int)) ∧ W.cell? ⟨b13, 1, none⟩ = some (.int .i64 (hr_ : Int)) ∧ W.cell? ⟨b13, 2, none⟩ = some (.slice a5 hn c5)) ∧ (W.cell? ⟨b16, 0, none⟩ = some (.int .u64 (hs : Int)) ∧ W.cell? ⟨b16, 1, none⟩ = some (.int .i64 (hr_ : Int)) ∧ W.cell? ⟨b16, 2, none⟩ = some (.slice a6 hn c6)) ∧ (W.cell? ⟨b19, 0, none⟩ = some (.int .u64 (ds : Int)) ∧ W.cell? ⟨b19, 1, none⟩ = some (.int .i64 (dr : Int)) ∧ W.cell? ⟨b19, 2, none⟩ = some (.slice a7 dn c7)) ∧ (W.cell? ⟨b21, 0, none⟩ = some (.int .u64 (ds : Int)) ∧ W.cell? ⟨b21, 1, none⟩ = some (.int .i64 (dr : Int)) ∧ W.cell? ⟨b21, 2, none⟩ = some (.slice a8 dn c8)) ∧ Below w14.heap.size w14 W := fun W hW => by
        have y1 := HX14.out.1.below hW HX14.out.1.lt
        have y2 := HX14.out.2.1.below hW HX14.out.2.1.lt
        have y3 := HX14.out.2.2.1.below hW HX14.out.2.2.1.lt
        have y4 := HX14.out.2.2.2.1.below hW HX14.out.2.2.2.1.lt
        have y5 := HX14.out.2.2.2.2.below hW HX14.out.2.2.2.2.lt
        exact ⟨⟨y1.k0, y1.k1, y1.k2⟩, ⟨y2.k0, y2.k1, y2.k2⟩, ⟨y3.k0, y3.k1, y3.k2⟩, ⟨y4.k0, y4.k1, y4.k2⟩, ⟨y5.k0, y5.k1, y5.k2⟩, hW⟩
      have HKeep : Hid _ := hkeep
      have hS : (fun W : World => (W.cell? ⟨b3, 0, none⟩ = some (.int .u64 (seq : Int)) ∧ W.cell? ⟨b3, 1, none⟩ = some (.int .i64 row) ∧ W.cell? ⟨b3, 2, none⟩ = some (.slice a n cap)) ∧ (W.cell? ⟨b13, 0, none⟩ = some (.int .u64 (hs : Int)) ∧ W.cell? ⟨b13, 1, none⟩ = some (.int .i64 (hr_ : Int)) ∧ W.cell? ⟨b13, 2, none⟩ = some (.slice a5 hn c5)) ∧ (W.cell? ⟨b16, 0, none⟩ = some (.int .u64 (hs : Int)) ∧ W.cell? ⟨b16, 1, none⟩ = some (.int .i64 (hr_ : Int)) ∧ W.cell? ⟨b16, 2, none⟩ = some (.slice a6 hn c6)) ∧ (W.cell? ⟨b19, 0, none⟩ = some (.int .u64 (ds : Int)) ∧ W.cell? ⟨b19, 1, none⟩ = some (.int .i64 (dr : Int)) ∧ W.cell? ⟨b19, 2, none⟩ = some (.slice a7 dn c7)) ∧ (W.cell? ⟨b21, 0, none⟩ = some (.int .u64 (ds : Int)) ∧ W.cell? ⟨b21, 1, none⟩ = some (.int .i64 (dr : Int)) ∧ W.cell? ⟨b21, 2, none⟩ = some (.slice a8 dn c8)) ∧ Below w14.heap.size w14 W) w14.drew := hkeep _ ((Below.refl _ _).drew)
      have HD : Hid (Below w14.heap.size w14 w14.drew) := (Below.refl _ _).drew
      clear hkeep
      refine wp_region_held (S := fun W => (W.cell? ⟨b3, 0, none⟩ = some (.int .u64 (seq : Int)) ∧ W.cell? ⟨b3, 1, none⟩ = some (.int .i64 row) ∧ W.cell? ⟨b3, 2, none⟩ = some (.slice a n cap)) ∧ (W.cell? ⟨b13, 0, none⟩ = some (.int .u64 (hs : Int)) ∧ W.cell? ⟨b13, 1, none⟩ = some (.int .i64 (hr_ : Int)) ∧ W.cell? ⟨b13, 2, none⟩ = some (.slice a5 hn c5)) ∧ (W.cell? ⟨b16, 0, none⟩ = some (.int .u64 (hs : Int)) ∧ W.cell? ⟨b16, 1, none⟩ = some (.int .i64 (hr_ : Int)) ∧ W.cell? ⟨b16, 2, none⟩ = some (.slice a6 hn c6)) ∧ (W.cell? ⟨b19, 0, none⟩ = some (.int .u64 (ds : Int)) ∧ W.cell? ⟨b19, 1, none⟩ = some (.int .i64 (dr : Int)) ∧ W.cell? ⟨b19, 2, none⟩ = some (.slice a7 dn c7)) ∧ (W.cell? ⟨b21, 0, none⟩ = some (.int .u64 (ds : Int)) ∧ W.cell? ⟨b21, 1, none⟩ = some (.int .i64 (dr : Int)) ∧ W.cell? ⟨b21, 2, none⟩ = some (.slice a8 dn c8)) ∧ Below w14.heap.size w14 W) HMX.out ?_
      change wpAnyH _ _ _ _ _ _ _ _ w14.drew
      refine held_quiet 0 (v := ?v0q1) rfl (by kernel_rfl) (fun _ _ _ h => h) (by assumption) rfl ?hy0q1 ?rest0q1
      case hy0q1 => (intro wS hSw; (try dsimp only at hSw); go_simp; try with_reducible rfl)
      try simp only [Act.put, List.setIfInBounds_toArray, List.set_cons_zero, List.set_cons_succ]
      refine held_quiet 1 (v := ?v1q2) rfl (by kernel_rfl) (fun _ _ _ h => h) (by assumption) rfl ?hy1q2 ?rest1q2
      case hy1q2 => (intro wS hSw; (try dsimp only at hSw); go_simp; try with_reducible rfl)
      try simp only [Act.put, List.setIfInBounds_toArray, List.set_cons_zero, List.set_cons_succ]
      refine held_quiet 2 (v := ?v2q3) rfl (by kernel_rfl) (fun _ _ _ h => h) (by assumption) rfl ?hy2q3 ?rest2q3
      case hy2q3 => (intro wS hSw; (try dsimp only at hSw); go_simp; try with_reducible rfl)
      try simp only [Act.put, List.setIfInBounds_toArray, List.set_cons_zero, List.set_cons_succ]
      refine held_quiet 3 (v := ?v3q4) rfl (by kernel_rfl) (fun _ _ _ h => h) (by assumption) rfl ?hy3q4 ?rest3q4
      case hy3q4 => (intro wS hSw; (try dsimp only at hSw); go_simp; try with_reducible rfl)
      try simp only [Act.put, List.setIfInBounds_toArray, List.set_cons_zero, List.set_cons_succ]
      refine held_quiet 4 (v := ?v4q5) rfl (by kernel_rfl) (fun _ _ _ h => h) (by assumption) rfl ?hy4q5 ?rest4q5
      case hy4q5 => (intro wS hSw; (try dsimp only at hSw); go_simp; try with_reducible rfl)
      try simp only [Act.put, List.setIfInBounds_toArray, List.set_cons_zero, List.set_cons_succ]
      refine held_quiet 5 (v := ?v5q6) rfl (by kernel_rfl) (fun _ _ _ h => h) (by assumption) rfl ?hy5q6 ?rest5q6
      case hy5q6 => (intro wS hSw; (try dsimp only at hSw); go_simp; try with_reducible rfl)
      try simp only [Act.put, List.setIfInBounds_toArray, List.set_cons_zero, List.set_cons_succ]
      clear hS
      refine held_one 6 rfl (by kernel_rfl) ?_
      go_wp2_with (go_at_call 17; refine (HTx.out _ _ _ _ _ (HT14.out.1.below HD.out) (HT14.out.2.below HD.out)).mono ?_; rintro e v1 ⟨rfl, hc1⟩)
      have HC1 : Hid (Below w14.heap.size w14 v1) := below2 HD.out hc1
      have hS1 : (fun W : World => (W.cell? ⟨b3, 0, none⟩ = some (.int .u64 (seq : Int)) ∧ W.cell? ⟨b3, 1, none⟩ = some (.int .i64 row) ∧ W.cell? ⟨b3, 2, none⟩ = some (.slice a n cap)) ∧ (W.cell? ⟨b13, 0, none⟩ = some (.int .u64 (hs : Int)) ∧ W.cell? ⟨b13, 1, none⟩ = some (.int .i64 (hr_ : Int)) ∧ W.cell? ⟨b13, 2, none⟩ = some (.slice a5 hn c5)) ∧ (W.cell? ⟨b16, 0, none⟩ = some (.int .u64 (hs : Int)) ∧ W.cell? ⟨b16, 1, none⟩ = some (.int .i64 (hr_ : Int)) ∧ W.cell? ⟨b16, 2, none⟩ = some (.slice a6 hn c6)) ∧ (W.cell? ⟨b19, 0, none⟩ = some (.int .u64 (ds : Int)) ∧ W.cell? ⟨b19, 1, none⟩ = some (.int .i64 (dr : Int)) ∧ W.cell? ⟨b19, 2, none⟩ = some (.slice a7 dn c7)) ∧ (W.cell? ⟨b21, 0, none⟩ = some (.int .u64 (ds : Int)) ∧ W.cell? ⟨b21, 1, none⟩ = some (.int .i64 (dr : Int)) ∧ W.cell? ⟨b21, 2, none⟩ = some (.slice a8 dn c8)) ∧ Below w14.heap.size w14 W) v1 := HKeep.out _ HC1.out
      refine ⟨hS1, ?_⟩
      clear hc1
      refine held_quiet 7 (v := ?v7q7) rfl (by kernel_rfl) (fun _ _ _ h => h) (by assumption) rfl ?hy7q7 ?rest7q7
      case hy7q7 => (intro wS hSw; (try dsimp only at hSw); go_simp; try with_reducible rfl)
      try simp only [Act.put, List.setIfInBounds_toArray, List.set_cons_zero, List.set_cons_succ]
      refine held_quiet 8 (v := ?v8q8) rfl (by kernel_rfl) (fun _ _ _ h => h) (by assumption) rfl ?hy8q8 ?rest8q8
      case hy8q8 => (intro wS hSw; (try dsimp only at hSw); go_simp; try with_reducible rfl)
      try simp only [Act.put, List.setIfInBounds_toArray, List.set_cons_zero, List.set_cons_succ]
      refine held_quiet 9 (v := ?v9q9) rfl (by kernel_rfl) (fun _ _ _ h => h) (by assumption) rfl ?hy9q9 ?rest9q9
      case hy9q9 => (intro wS hSw; (try dsimp only at hSw); go_simp; try with_reducible rfl)
      try simp only [Act.put, List.setIfInBounds_toArray, List.set_cons_zero, List.set_cons_succ]
      refine held_quiet 10 (v := ?v10q10) rfl (by kernel_rfl) (fun _ _ _ h => h) (by assumption) rfl ?hy10q10 ?rest10q10
      case hy10q10 => (intro wS hSw; (try dsimp only at hSw); go_simp; try with_reducible rfl)
      try simp only [Act.put, List.setIfInBounds_toArray, List.set_cons_zero, List.set_cons_succ]
      refine held_quiet 11 (v := ?v11q11) rfl (by kernel_rfl) (fun _ _ _ h => h) (by assumption) rfl ?hy11q11 ?rest11q11
      case hy11q11 => (intro wS hSw; (try dsimp only at hSw); go_simp; try with_reducible rfl)
      try simp only [Act.put, List.setIfInBounds_toArray, List.set_cons_zero, List.set_cons_succ]
      refine held_quiet 12 (v := ?v12q12) rfl (by kernel_rfl) (fun _ _ _ h => h) (by assumption) rfl ?hy12q12 ?rest12q12
      case hy12q12 => (intro wS hSw; (try dsimp only at hSw); go_simp; try with_reducible rfl)
      try simp only [Act.put, List.setIfInBounds_toArray, List.set_cons_zero, List.set_cons_succ]
      refine held_quiet 13 (v := ?v13q13) rfl (by kernel_rfl) (fun _ _ _ h => h) (by assumption) rfl ?hy13q13 ?rest13q13
      case hy13q13 => (intro wS hSw; (try dsimp only at hSw); go_simp; try with_reducible rfl)
      try simp only [Act.put, List.setIfInBounds_toArray, List.set_cons_zero, List.set_cons_succ]
      refine held_quiet 14 (v := ?v14q14) rfl (by kernel_rfl) (fun _ _ _ h => h) (by assumption) rfl ?hy14q14 ?rest14q14
      case hy14q14 => (intro wS hSw; (try dsimp only at hSw); go_simp; try with_reducible rfl)
      try simp only [Act.put, List.setIfInBounds_toArray, List.set_cons_zero, List.set_cons_succ]
      refine held_quiet 15 (v := ?v15q15) rfl (by kernel_rfl) (fun _ _ _ h => h) (by assumption) rfl ?hy15q15 ?rest15q15
      case hy15q15 => (intro wS hSw; (try dsimp only at hSw); go_simp; try with_reducible rfl)
      try simp only [Act.put, List.setIfInBounds_toArray, List.set_cons_zero, List.set_cons_succ]
      refine held_quiet 17 (v := ?v17q16) rfl (by kernel_rfl) (fun _ _ _ h => h) (by assumption) rfl ?hy17q16 ?rest17q16
      case hy17q16 => (intro wS hSw; (try dsimp only at hSw); go_simp; try with_reducible rfl)
      try simp only [Act.put, List.setIfInBounds_toArray, List.set_cons_zero, List.set_cons_succ]
      clear hS1
      refine held_one 16 rfl (by kernel_rfl) ?_
      go_wp2_with (go_at_call 12; refine (HTh.out _ _ _ _ _ _ _ (by have := HIn.out; omega) (HP14.out.2.1.below HC1.out)).mono ?_; rintro e v2 ⟨d2, k2, rfl, hq2, hc2⟩)
      have HC2 : Hid (Below w14.heap.size w14 v2) := below2 HC1.out hc2
      have HQ2 : Hid (PartsR v2 d2 hn hP) := hq2
      refine ⟨HKeep.out _ HC2.out, ?_⟩
      clear hc2 hq2
      refine held_one 18 rfl (by kernel_rfl) ?_
      go_wp2_with (go_at_call 18; refine (HSa.out _ _ _ _ _ _ _ _ _ HIn.out.2.1 HQ2.out (HP14.out.2.2.1.below HC2.out)).mono ?_; rintro e v3 ⟨rfl, hc3⟩)
      have HC3 : Hid (Below w14.heap.size w14 v3) := below2 HC2.out hc3
      have hS3 : (fun W : World => (W.cell? ⟨b3, 0, none⟩ = some (.int .u64 (seq : Int)) ∧ W.cell? ⟨b3, 1, none⟩ = some (.int .i64 row) ∧ W.cell? ⟨b3, 2, none⟩ = some (.slice a n cap)) ∧ (W.cell? ⟨b13, 0, none⟩ = some (.int .u64 (hs : Int)) ∧ W.cell? ⟨b13, 1, none⟩ = some (.int .i64 (hr_ : Int)) ∧ W.cell? ⟨b13, 2, none⟩ = some (.slice a5 hn c5)) ∧ (W.cell? ⟨b16, 0, none⟩ = some (.int .u64 (hs : Int)) ∧ W.cell? ⟨b16, 1, none⟩ = some (.int .i64 (hr_ : Int)) ∧ W.cell? ⟨b16, 2, none⟩ = some (.slice a6 hn c6)) ∧ (W.cell? ⟨b19, 0, none⟩ = some (.int .u64 (ds : Int)) ∧ W.cell? ⟨b19, 1, none⟩ = some (.int .i64 (dr : Int)) ∧ W.cell? ⟨b19, 2, none⟩ = some (.slice a7 dn c7)) ∧ (W.cell? ⟨b21, 0, none⟩ = some (.int .u64 (ds : Int)) ∧ W.cell? ⟨b21, 1, none⟩ = some (.int .i64 (dr : Int)) ∧ W.cell? ⟨b21, 2, none⟩ = some (.slice a8 dn c8)) ∧ Below w14.heap.size w14 W) v3 := HKeep.out _ HC3.out
      refine ⟨hS3, ?_⟩
      clear hc3
      refine held_quiet 19 (v := ?v19q17) rfl (by kernel_rfl) (fun _ _ _ h => h) (by assumption) rfl ?hy19q17 ?rest19q17
      case hy19q17 => (intro wS hSw; (try dsimp only at hSw); go_simp; try with_reducible rfl)
      try simp only [Act.put, List.setIfInBounds_toArray, List.set_cons_zero, List.set_cons_succ]
      refine held_quiet 20 (v := ?v20q18) rfl (by kernel_rfl) (fun _ _ _ h => h) (by assumption) rfl ?hy20q18 ?rest20q18
      case hy20q18 => (intro wS hSw; (try dsimp only at hSw); go_simp; try with_reducible rfl)
      try simp only [Act.put, List.setIfInBounds_toArray, List.set_cons_zero, List.set_cons_succ]
      refine held_quiet 21 (v := ?v21q19) rfl (by kernel_rfl) (fun _ _ _ h => h) (by assumption) rfl ?hy21q19 ?rest21q19
      case hy21q19 => (intro wS hSw; (try dsimp only at hSw); go_simp; try with_reducible rfl)
      try simp only [Act.put, List.setIfInBounds_toArray, List.set_cons_zero, List.set_cons_succ]
      refine held_quiet 22 (v := ?v22q20) rfl (by kernel_rfl) (fun _ _ _ h => h) (by assumption) rfl ?hy22q20 ?rest22q20
      case hy22q20 => (intro wS hSw; (try dsimp only at hSw); go_simp; try with_reducible rfl)
      try simp only [Act.put, List.setIfInBounds_toArray, List.set_cons_zero, List.set_cons_succ]
      refine held_quiet 23 (v := ?v23q21) rfl (by kernel_rfl) (fun _ _ _ h => h) (by assumption) rfl ?hy23q21 ?rest23q21
      case hy23q21 => (intro wS hSw; (try dsimp only at hSw); go_simp; try with_reducible rfl)
      try simp only [Act.put, List.setIfInBounds_toArray, List.set_cons_zero, List.set_cons_succ]
      refine held_quiet 24 (v := ?v24q22) rfl (by kernel_rfl) (fun _ _ _ h => h) (by assumption) rfl ?hy24q22 ?rest24q22
      case hy24q22 => (intro wS hSw; (try dsimp only at hSw); go_simp; try with_reducible rfl)
      try simp only [Act.put, List.setIfInBounds_toArray, List.set_cons_zero, List.set_cons_succ]
      refine held_quiet 25 (v := ?v25q23) rfl (by kernel_rfl) (fun _ _ _ h => h) (by assumption) rfl ?hy25q23 ?rest25q23
      case hy25q23 => (intro wS hSw; (try dsimp only at hSw); go_simp; try with_reducible rfl)
      try simp only [Act.put, List.setIfInBounds_toArray, List.set_cons_zero, List.set_cons_succ]
      refine held_quiet 26 (v := ?v26q24) rfl (by kernel_rfl) (fun _ _ _ h => h) (by assumption) rfl ?hy26q24 ?rest26q24
      case hy26q24 => (intro wS hSw; (try dsimp only at hSw); go_simp; try with_reducible rfl)
      try simp only [Act.put, List.setIfInBounds_toArray, List.set_cons_zero, List.set_cons_succ]
      refine held_quiet 27 (v := ?v27q25) rfl (by kernel_rfl) (fun _ _ _ h => h) (by assumption) rfl ?hy27q25 ?rest27q25
      case hy27q25 => (intro wS hSw; (try dsimp only at hSw); go_simp; try with_reducible rfl)
      try simp only [Act.put, List.setIfInBounds_toArray, List.set_cons_zero, List.set_cons_succ]
      refine held_quiet 28 (v := ?v28q26) rfl (by kernel_rfl) (fun _ _ _ h => h) (by assumption) rfl ?hy28q26 ?rest28q26
      case hy28q26 => (intro wS hSw; (try dsimp only at hSw); go_simp; try with_reducible rfl)
      try simp only [Act.put, List.setIfInBounds_toArray, List.set_cons_zero, List.set_cons_succ]
      refine held_quiet 29 (v := ?v29q27) rfl (by kernel_rfl) (fun _ _ _ h => h) (by assumption) rfl ?hy29q27 ?rest29q27
      case hy29q27 => (intro wS hSw; (try dsimp only at hSw); go_simp; try with_reducible rfl)
      try simp only [Act.put, List.setIfInBounds_toArray, List.set_cons_zero, List.set_cons_succ]
      refine held_quiet 30 (v := ?v30q28) rfl (by kernel_rfl) (fun _ _ _ h => h) (by assumption) rfl ?hy30q28 ?rest30q28
      case hy30q28 => (intro wS hSw; (try dsimp only at hSw); go_simp; try with_reducible rfl)
      try simp only [Act.put, List.setIfInBounds_toArray, List.set_cons_zero, List.set_cons_succ]
      refine held_quiet 31 (v := ?v31q29) rfl (by kernel_rfl) (fun _ _ _ h => h) (by assumption) rfl ?hy31q29 ?rest31q29
      case hy31q29 => (intro wS hSw; (try dsimp only at hSw); go_simp; try with_reducible rfl)
      try simp only [Act.put, List.setIfInBounds_toArray, List.set_cons_zero, List.set_cons_succ]
      refine held_quiet 32 (v := ?v32q30) rfl (by kernel_rfl) (fun _ _ _ h => h) (by assumption) rfl ?hy32q30 ?rest32q30
      case hy32q30 => (intro wS hSw; (try dsimp only at hSw); go_simp; try with_reducible rfl)
      try simp only [Act.put, List.setIfInBounds_toArray, List.set_cons_zero, List.set_cons_succ]
      refine held_quiet 34 (v := ?v34q31) rfl (by kernel_rfl) (fun _ _ _ h => h) (by assumption) rfl ?hy34q31 ?rest34q31
      case hy34q31 => (intro wS hSw; (try dsimp only at hSw); go_simp; try with_reducible rfl)
      try simp only [Act.put, List.setIfInBounds_toArray, List.set_cons_zero, List.set_cons_succ]
      clear hS3
      refine held_one 33 rfl (by kernel_rfl) ?_
      go_wp2_with (go_at_call 12; refine (HTh.out _ _ _ _ _ _ _ (by have := HIn.out; omega) (HP14.out.2.2.2.1.below HC3.out)).mono ?_; rintro e v4 ⟨d4, k4, rfl, hq4, hc4⟩)
      have HC4 : Hid (Below w14.heap.size w14 v4) := below2 HC3.out hc4
      have HQ4 : Hid (PartsR v4 d4 dn dP) := hq4
      refine ⟨HKeep.out _ HC4.out, ?_⟩
      clear hc4 hq4
      refine held_one 35 rfl (by kernel_rfl) ?_
      go_wp2_with (go_at_call 18; refine (HSa.out _ _ _ _ _ _ _ _ _ HIn.out.2.2 HQ4.out (HP14.out.2.2.2.2.below HC4.out)).mono ?_; rintro e v5 ⟨rfl, hc5⟩)
      have HC5 : Hid (Below w14.heap.size w14 v5) := below2 HC4.out hc5
      have hS5 : (fun W : World => (W.cell? ⟨b3, 0, none⟩ = some (.int .u64 (seq : Int)) ∧ W.cell? ⟨b3, 1, none⟩ = some (.int .i64 row) ∧ W.cell? ⟨b3, 2, none⟩ = some (.slice a n cap)) ∧ (W.cell? ⟨b13, 0, none⟩ = some (.int .u64 (hs : Int)) ∧ W.cell? ⟨b13, 1, none⟩ = some (.int .i64 (hr_ : Int)) ∧ W.cell? ⟨b13, 2, none⟩ = some (.slice a5 hn c5)) ∧ (W.cell? ⟨b16, 0, none⟩ = some (.int .u64 (hs : Int)) ∧ W.cell? ⟨b16, 1, none⟩ = some (.int .i64 (hr_ : Int)) ∧ W.cell? ⟨b16, 2, none⟩ = some (.slice a6 hn c6)) ∧ (W.cell? ⟨b19, 0, none⟩ = some (.int .u64 (ds : Int)) ∧ W.cell? ⟨b19, 1, none⟩ = some (.int .i64 (dr : Int)) ∧ W.cell? ⟨b19, 2, none⟩ = some (.slice a7 dn c7)) ∧ (W.cell? ⟨b21, 0, none⟩ = some (.int .u64 (ds : Int)) ∧ W.cell? ⟨b21, 1, none⟩ = some (.int .i64 (dr : Int)) ∧ W.cell? ⟨b21, 2, none⟩ = some (.slice a8 dn c8)) ∧ Below w14.heap.size w14 W) v5 := HKeep.out _ HC5.out
      refine ⟨hS5, ?_⟩
      clear hc5
      refine held_quiet 36 (v := ?v36q32) rfl (by kernel_rfl) (fun _ _ _ h => h) (by assumption) rfl ?hy36q32 ?rest36q32
      case hy36q32 => (intro wS hSw; (try dsimp only at hSw); go_simp; try with_reducible rfl)
      try simp only [Act.put, List.setIfInBounds_toArray, List.set_cons_zero, List.set_cons_succ]
      refine held_quiet 37 (v := ?v37q33) rfl (by kernel_rfl) (fun _ _ _ h => h) (by assumption) rfl ?hy37q33 ?rest37q33
      case hy37q33 => (intro wS hSw; (try dsimp only at hSw); go_simp; try with_reducible rfl)
      try simp only [Act.put, List.setIfInBounds_toArray, List.set_cons_zero, List.set_cons_succ]
      refine held_quiet 38 (v := ?v38q34) rfl (by kernel_rfl) (fun _ _ _ h => h) (by assumption) rfl ?hy38q34 ?rest38q34
      case hy38q34 => (intro wS hSw; (try dsimp only at hSw); go_simp; try with_reducible rfl)
      try simp only [Act.put, List.setIfInBounds_toArray, List.set_cons_zero, List.set_cons_succ]
      refine held_quiet 39 (v := ?v39q35) rfl (by kernel_rfl) (fun _ _ _ h => h) (by assumption) rfl ?hy39q35 ?rest39q35
      case hy39q35 => (intro wS hSw; (try dsimp only at hSw); go_simp; try with_reducible rfl)
      try simp only [Act.put, List.setIfInBounds_toArray, List.set_cons_zero, List.set_cons_succ]
      refine held_quiet 40 (v := ?v40q36) rfl (by kernel_rfl) (fun _ _ _ h => h) (by assumption) rfl ?hy40q36 ?rest40q36
      case hy40q36 => (intro wS hSw; (try dsimp only at hSw); go_simp; try with_reducible rfl)
      try simp only [Act.put, List.setIfInBounds_toArray, List.set_cons_zero, List.set_cons_succ]
      refine held_quiet 41 (v := ?v41q37) rfl (by kernel_rfl) (fun _ _ _ h => h) (by assumption) rfl ?hy41q37 ?rest41q37
      case hy41q37 => (intro wS hSw; (try dsimp only at hSw); go_simp; try with_reducible rfl)
      try simp only [Act.put, List.setIfInBounds_toArray, List.set_cons_zero, List.set_cons_succ]
      refine held_quiet 42 (v := ?v42q38) rfl (by kernel_rfl) (fun _ _ _ h => h) (by assumption) rfl ?hy42q38 ?rest42q38
      case hy42q38 => (intro wS hSw; (try dsimp only at hSw); go_simp; try with_reducible rfl)
      try simp only [Act.put, List.setIfInBounds_toArray, List.set_cons_zero, List.set_cons_succ]
      refine held_quiet 43 (v := ?v43q39) rfl (by kernel_rfl) (fun _ _ _ h => h) (by assumption) rfl ?hy43q39 ?rest43q39
      case hy43q39 => (intro wS hSw; (try dsimp only at hSw); go_simp; try with_reducible rfl)
      try simp only [Act.put, List.setIfInBounds_toArray, List.set_cons_zero, List.set_cons_succ]
      refine held_quiet 44 (v := ?v44q40) rfl (by kernel_rfl) (fun _ _ _ h => h) (by assumption) rfl ?hy44q40 ?rest44q40
      case hy44q40 => (intro wS hSw; (try dsimp only at hSw); go_simp; try with_reducible rfl)
      try simp only [Act.put, List.setIfInBounds_toArray, List.set_cons_zero, List.set_cons_succ]
      refine held_quiet 46 (v := ?v46q41) rfl (by kernel_rfl) (fun _ _ _ h => h) (by assumption) rfl ?hy46q41 ?rest46q41
      case hy46q41 => (intro wS hSw; (try dsimp only at hSw); go_simp; try with_reducible rfl)
      try simp only [Act.put, List.setIfInBounds_toArray, List.set_cons_zero, List.set_cons_succ]
      clear hS5
      refine held_one 45 rfl (by kernel_rfl) ?_
      go_wp2_with (go_at_call 19; refine (HMp.out _ (HP14.out.1.below HC5.out)).mono ?_; rintro e v6 ⟨rfl, hc6⟩)
      have HC6 : Hid (Below w14.heap.size w14 v6) := below2 HC5.out hc6
      refine ⟨HKeep.out _ HC6.out, ?_⟩
      clear hc6
      refine held_one 47 rfl (by kernel_rfl) ?_
      go_wp2_with (go_at_call 12; refine (HTh.out _ _ _ _ _ _ _ (by have := HIn.out; omega) (HP14.out.1.below HC6.out)).mono ?_; rintro e v7 ⟨d7, k7, rfl, hq7, hc7⟩)
      have HC7 : Hid (Below w14.heap.size w14 v7) := below2 HC6.out hc7
      have HQ7 : Hid (PartsR v7 d7 n f) := hq7
      refine ⟨HKeep.out _ HC7.out, ?_⟩
      clear hc7 hq7
      refine held_one 48 rfl (by kernel_rfl) ?_
      go_wp2_with (go_at_call 20; refine (HMr.out _ _ _ HQ7.out).mono ?_; rintro e v8 ⟨rfl, hc8⟩)
      have HC8 : Hid (Below w14.heap.size w14 v8) := below2 HC7.out hc8
      have hS8 : (fun W : World => (W.cell? ⟨b3, 0, none⟩ = some (.int .u64 (seq : Int)) ∧ W.cell? ⟨b3, 1, none⟩ = some (.int .i64 row) ∧ W.cell? ⟨b3, 2, none⟩ = some (.slice a n cap)) ∧ (W.cell? ⟨b13, 0, none⟩ = some (.int .u64 (hs : Int)) ∧ W.cell? ⟨b13, 1, none⟩ = some (.int .i64 (hr_ : Int)) ∧ W.cell? ⟨b13, 2, none⟩ = some (.slice a5 hn c5)) ∧ (W.cell? ⟨b16, 0, none⟩ = some (.int .u64 (hs : Int)) ∧ W.cell? ⟨b16, 1, none⟩ = some (.int .i64 (hr_ : Int)) ∧ W.cell? ⟨b16, 2, none⟩ = some (.slice a6 hn c6)) ∧ (W.cell? ⟨b19, 0, none⟩ = some (.int .u64 (ds : Int)) ∧ W.cell? ⟨b19, 1, none⟩ = some (.int .i64 (dr : Int)) ∧ W.cell? ⟨b19, 2, none⟩ = some (.slice a7 dn c7)) ∧ (W.cell? ⟨b21, 0, none⟩ = some (.int .u64 (ds : Int)) ∧ W.cell? ⟨b21, 1, none⟩ = some (.int .i64 (dr : Int)) ∧ W.cell? ⟨b21, 2, none⟩ = some (.slice a8 dn c8)) ∧ Below w14.heap.size w14 W) v8 := HKeep.out _ HC8.out
      refine ⟨hS8, ?_⟩
      clear hc8
      refine held_quiet 49 (v := ?v49q42) rfl (by kernel_rfl) (fun _ _ _ h => h) (by assumption) rfl ?hy49q42 ?rest49q42
      case hy49q42 => (intro wS hSw; (try dsimp only at hSw); go_simp; try with_reducible rfl)
      try simp only [Act.put, List.setIfInBounds_toArray, List.set_cons_zero, List.set_cons_succ]
      refine held_quiet 50 (v := ?v50q43) rfl (by kernel_rfl) (fun _ _ _ h => h) (by assumption) rfl ?hy50q43 ?rest50q43
      case hy50q43 => (intro wS hSw; (try dsimp only at hSw); go_simp; try with_reducible rfl)
      try simp only [Act.put, List.setIfInBounds_toArray, List.set_cons_zero, List.set_cons_succ]
      clear hS8
      refine held_done (by kernel_rfl) ?_
      have HBv : Hid (Below w.heap.size w v8) := below2 HB14.out HC8.out
      rcases HFin.out with hz | ⟨hz1, hz2, hz3⟩
      · have hz' : ((ee : Int) == 0) = true := by rw [beq_iff_eq]; omega
        clear hz
        go_wp2
        go_ret
        exact ⟨rfl, HBv.out⟩
      · have hz' : ((ee : Int) == 0) = false := by rw [beq_eq_false_iff_ne]; omega
        have hn' : ((en : Int) == 0) = true := by rw [beq_iff_eq]; omega
        subst hz1
        clear hz2 hz3
        go_wp2
        go_ret
        exact ⟨rfl, HBv.out⟩

set_option maxRecDepth 100000 in
set_option maxHeartbeats 4000000 in
/-- RecordTells, over what is asked of the program -/
theorem tells12_says (X : RecSays) (seq : Nat) (row : Int) (a : Option Addr) (n cap : Nat) (f : Nat → Prt) (b : ByteArray) (aL : Option Addr) (m capL : Nat) (g : Nat → ByteArray) (w : World) (h0 : seq < 18446744073709551616) (hin : RecIn row n f) (hp : PartsR w a n f) (h16 : n * 16 ≤ 140737488355328) (hd : ∀ j, j < n → (f j).data.size ≤ maxLen) (_hb : b.size ≤ maxLen) (hcm : m ≤ capL) (hr : RowS w aL m g) (hm : m ≤ maxLen) (hg : ∀ j, j < m → (g j).size ≤ maxLen) :
    Calls Tryd.prog 3 #[.agg #[.int .u64 (seq : Int), .int .i64 row, .slice a n cap], .string b, .slice aL m capL] w fun e w' => e = .returned (.bool true) ∧ Below w.heap.size w w' := by
  by_cases hlight : Rc.Light12 n (fun j => (f j).data) ∧ b.size ≤ 100 ∧ Rc.Light12 m g
  · exact tells12_main X seq row a n cap f b aL m capL g w h0 hin hp hlight.1 hlight.2.1 hcm hr hlight.2.2
  have HSh : Hid _ := fun W => shown12_any X W
  have HPa : Hid _ := fun (W : World) (hr : PartsR W a n f) => parts12_any (seq : Int) row a n cap f W h16 hr
  have HHv : Hid _ := fun (W : World) (a' : Option Addr) (c : Nat) (hr : RowS W a' n (fun j => (f j).data)) => heavy12_any W a' n c _ hr hd (by unfold maxLen; omega)
  have HHw : Hid _ := fun (W : World) (hr : RowS W aL m g) => heavy12_any W aL m capL g hr hg hm
  have HPr : Hid (PartsR w a n f) := hp
  have HRr : Hid (RowS w aL m g) := hr
  have HNl : Hid (¬ (Rc.Light12 n (fun j => (f j).data) ∧ b.size ≤ 100 ∧ Rc.Light12 m g)) := hlight
  clear hp hr hlight hin h16 hd hg hm
  by_cases hk : (100 : Int) < (b.size : Int)
  · go_enter Tryd.func3, Tryd.ntmps3
    go_upto_region 1 with fail
    have hx3 := box_still w 25 (.int .u64 (seq : Int)) (.int .i64 row) (.slice a n cap)
    have b3' : Below w.heap.size w (w.alloc (.cells #[.int .u64 (seq : Int), .int .i64 row, .slice a n cap] 25)) := (Below.refl _ w).alloc (Nat.le_refl _) _
    obtain ⟨w0, hw0⟩ : ∃ w0, w0 = w.alloc (.cells #[.int .u64 (seq : Int), .int .i64 row, .slice a n cap] 25) := ⟨_, rfl⟩
    obtain ⟨b3, hb3⟩ : ∃ b3, b3 = w.heap.size := ⟨_, rfl⟩
    rw [← hw0] at hx3 b3' ⊢
    rw [← hb3] at hx3 ⊢
    have HB0 : Hid (Below w.heap.size w w0) := b3'
    have HP0 : Hid (PartsR w0 a n f) := HPr.out.below b3'
    have HR0 : Hid (RowS w0 aL m g) := HRr.out.below b3'
    obtain ⟨y0, y1, y2, _, _, _⟩ := hx3
    clear hw0 hb3 b3'
    go_wp2_with fail
    refine (HPa.out _ HP0.out).mono ?_
    rintro e w1 ⟨a1, c1, rfl, hr1, _, hb1⟩
    have HB1 : Hid (Below w.heap.size w w1) := below2 HB0.out hb1
    have HR1 : Hid (RowS w1 aL m g) := HR0.out.below hb1
    have HQ1 : Hid (RowS w1 a1 n (fun j => (f j).data)) := hr1
    clear hb1 hr1 y0 y1 y2
    go_wp2_with fail
    refine (HHv.out _ _ _ HQ1.out).mono ?_
    rintro e w' ⟨rfl, hcase⟩
    rcases hcase with rfl | ⟨rfl, _⟩
    · go_wp2_with fail
      refine (HSh.out _).mono ?_
      rintro e w2 ⟨rfl, hb⟩
      have HB : Hid (Below w.heap.size w w2) := below2 HB1.out hb
      clear hb
      go_wp2
      go_ret
      exact ⟨rfl, HB.out⟩
    · go_wp2_with fail
      refine (HHw.out _ HR1.out).mono ?_
      rintro e wB ⟨rfl, hcase⟩
      rcases hcase with rfl | ⟨rfl, _⟩
      all_goals
        go_wp2_with fail
        refine (HSh.out _).mono ?_
        rintro e w2 ⟨rfl, hb⟩
        have HB : Hid (Below w.heap.size w w2) := below2 HB1.out hb
        clear hb
        go_wp2
        go_ret
        exact ⟨rfl, HB.out⟩
  · go_enter Tryd.func3, Tryd.ntmps3
    go_upto_region 1 with fail
    have hx3 := box_still w 25 (.int .u64 (seq : Int)) (.int .i64 row) (.slice a n cap)
    have b3' : Below w.heap.size w (w.alloc (.cells #[.int .u64 (seq : Int), .int .i64 row, .slice a n cap] 25)) := (Below.refl _ w).alloc (Nat.le_refl _) _
    obtain ⟨w0, hw0⟩ : ∃ w0, w0 = w.alloc (.cells #[.int .u64 (seq : Int), .int .i64 row, .slice a n cap] 25) := ⟨_, rfl⟩
    obtain ⟨b3, hb3⟩ : ∃ b3, b3 = w.heap.size := ⟨_, rfl⟩
    rw [← hw0] at hx3 b3' ⊢
    rw [← hb3] at hx3 ⊢
    have HB0 : Hid (Below w.heap.size w w0) := b3'
    have HP0 : Hid (PartsR w0 a n f) := HPr.out.below b3'
    have HR0 : Hid (RowS w0 aL m g) := HRr.out.below b3'
    obtain ⟨y0, y1, y2, _, _, _⟩ := hx3
    clear hw0 hb3 b3'
    go_wp2_with fail
    refine (HPa.out _ HP0.out).mono ?_
    rintro e w1 ⟨a1, c1, rfl, hr1, _, hb1⟩
    have HB1 : Hid (Below w.heap.size w w1) := below2 HB0.out hb1
    have HR1 : Hid (RowS w1 aL m g) := HR0.out.below hb1
    have HQ1 : Hid (RowS w1 a1 n (fun j => (f j).data)) := hr1
    clear hb1 hr1 y0 y1 y2
    go_wp2_with fail
    refine (HHv.out _ _ _ HQ1.out).mono ?_
    rintro e w' ⟨rfl, hcase⟩
    rcases hcase with rfl | ⟨rfl, hl1⟩
    · go_wp2_with fail
      refine (HSh.out _).mono ?_
      rintro e w2 ⟨rfl, hb⟩
      have HB : Hid (Below w.heap.size w w2) := below2 HB1.out hb
      clear hb
      go_wp2
      go_ret
      exact ⟨rfl, HB.out⟩
    · have HL1 : Hid _ := hl1
      clear hl1
      go_wp2_with fail
      refine (HHw.out _ HR1.out).mono ?_
      rintro e wB ⟨rfl, hcase⟩
      rcases hcase with rfl | ⟨rfl, hl2⟩
      · go_wp2_with fail
        refine (HSh.out _).mono ?_
        rintro e w2 ⟨rfl, hb⟩
        have HB : Hid (Below w.heap.size w w2) := below2 HB1.out hb
        clear hb
        go_wp2
        go_ret
        exact ⟨rfl, HB.out⟩
      · exact absurd ⟨HL1.out, by omega, hl2⟩ HNl.out
end Go.Proofs.YtmikllmpinciiaaDoor
namespace Go.Proofs.YtmikllmpinciiaaDoor.recordTells
open Go.ChangeShapes Go.WideShapes Go.ChangeAt Go.RowKit
open Go.ChangeMaps (open_string shut_string)

theorem of_laid {W : World} (_ : laidMetH Tryd.prog Rows.recordTellsRow.laid W) : True := trivial
theorem walk (w : World) (r : RecV) (wf : RecWf w r) (h16 : r.n * 16 ≤ 140737488355328) (b : ByteArray) (hb : b.size ≤ maxLen) (aL : Option Addr) (m capL : Nat) (z : List ByteArray) (hz : IsStrs w aL m capL z) (_ : True) :
    Calls Tryd.prog 3 #[recV r, .string b, .slice aL m capL] w fun e w' => e = .returned (.bool true) ∧ Below w.heap.size w w' := by
  obtain ⟨l, hm, hs, hr⟩ := hz.open12
  have hc : m ≤ capL := by
    rcases hz with ⟨_, rfl, _, _⟩ | ⟨_, _, hl, _⟩
    · exact Nat.zero_le _
    · exact hl
  exact tells12_says rec_says r.seq r.row r.a r.n r.cap r.f b aL m capL l w wf.seq wf.inn wf.parts h16 wf.data hb hc hr hm hs

theorem own : ownKnob Tryd.prog.godebug = none := by kernel_rfl
theorem laidOut : laidOutB Tryd.prog = true := by kernel_rfl
theorem door_met (os : Os) (args : Array Value) : laidMetH Tryd.prog Rows.recordTellsRow.laid ((World.laidAll Tryd.prog os Rows.recordTellsRow.laid).forCall (fun _ _ => 0) ⟨#[], args, []⟩).memory := by
  rw [MakeChecks.laidMetH_plain _ _ _ (by kernel_rfl)]
  exact laidMet_laidAll _ (by kernel_rfl) (by kernel_rfl)
set_option linter.unusedVariables false in
set_option maxRecDepth 100000 in
theorem lifted (os : Os) (started : os.Started) (H : Type) (enc : TypeId × Value → H) :
    ReturnsInHanded {} Tryd.checked os 3 .any (fun w args => (Rows.recordTellsSpec.pre enc Tryd.prog Tryd.f3 [] false w args ∧ laidMetH Tryd.prog Rows.recordTellsRow.laid w) ∧ sizedMet enc Tryd.prog Tryd.f3 (OpenSpec.ofChange Rows.recordTellsSpec) false w args) (Rows.recordTellsSpec.post enc Tryd.prog Tryd.f3 false true false false) := by
  refine returnsInHanded_of_change_and (C := Tryd.checked) (X := fun w _ => laidMetH Tryd.prog Rows.recordTellsRow.laid w) (fun _ _ _ hh h => h.of_heap hh) own started (by kernel_rfl) Tryd.func3
    (ChangeSpec.witness_shaped (enc := enc) (C := Tryd.checked) (os := os) (X := fun w _ => laidMetH Tryd.prog Rows.recordTellsRow.laid w) false (World.laidAll Tryd.prog os Rows.recordTellsRow.laid) #[.agg #[.int .u64 0, .int .i64 0, .slice none 0 0], .string ByteArray.empty, .slice none 0 0] 8 (World.laidAll_os _ _ _) (World.shaped_of_ZipB (by kernel_rfl) (by kernel_rfl)) (by kernel_rfl) (by kernel_rfl) (by kernel_rfl) (door_met os _)) ?_
  intro W base args ds gs before hval0 hW _ hSz hL _
  have hval : ∀ (j : Nat) t v, Tryd.f3.params[j]? = some t → args[j]? = some v → Value.okWide Tryd.prog W .any base t v := hval0
  have hW' := hW
  obtain ⟨p, q, hA0, hV, rfl, hfz, hnd⟩ := hW
  have hA : DataW.TrodAll enc Tryd.prog W 0 (fun _ => true) true Tryd.f3.params.toList args.toList ds p := hA0
  rw [Tryd.params3] at hA hval
  obtain ⟨v0, vs0, d0, ds0, p0, q0, hargs, rfl, rfl, h0, r0⟩ := trodAll_cons hA
  obtain ⟨v1, vs1, d1, ds1, p1, q1, rfl, rfl, rfl, h1, r1⟩ := trodAll_cons r0
  obtain ⟨v2, vs2, d2, ds2, p2, q2, rfl, rfl, rfl, h2, r2⟩ := trodAll_cons r1
  obtain ⟨rfl, rfl, rfl⟩ := trodAll_nil r2
  obtain rfl : args = #[v0, v1, v2] := by cases args; simp_all
  obtain ⟨rfl, rfl⟩ := trodVars_none hV
  obtain ⟨s0, rfl, w0, dd0⟩ := open_rec (hval 0 25 v0 rfl rfl) h0
  have k0 := h0
  have lt0 : ∀ x ∈ p0, x.block < W.heap.size := by obtain ⟨m, hm⟩ := k0; exact DataW.trod_lt m _ _ _ hm
  have z0 := rec_sized (j := 0) dd0 hSz (by kernel_rfl) rfl
  obtain ⟨a1, rfl, rfl, rfl, w1⟩ := open_string Tryd.underlying9 (hval 1 9 v1 rfl rfl) h1
  obtain ⟨a2, len2, cap2, rfl⟩ := okWide_slice Tryd.underlying26 (hval 2 26 v2 rfl rfl)
  have k2 := h2
  have lt2 : ∀ x ∈ p2, x.block < W.heap.size := by obtain ⟨m, hm⟩ := k2; exact DataW.trod_lt m _ _ _ hm
  obtain ⟨z2, w2⟩ : ∃ zs, IsStrs W a2 len2 cap2 zs := by
    obtain ⟨fuel, hf⟩ := h2
    rcases open_strings Tryd.underlying26 Tryd.underlying9 (by kernel_rfl) hf with ⟨hcs, _⟩ | ⟨x, l, c, zs, hcs, _, hl, hm, hz, _, hcell, hwz⟩
    · simp [Value.cells] at hcs
      obtain ⟨rfl, rfl, rfl⟩ := hcs
      exact ⟨[], .inl ⟨rfl, rfl, rfl, rfl⟩⟩
    · simp [Value.cells] at hcs
      obtain ⟨rfl, rfl, rfl⟩ := hcs
      exact ⟨zs, .inr ⟨_, rfl, hl, hm, by simpa using hz, hcell, hwz⟩⟩
  clear hA0 hval0
  simp only [List.append_nil] at hW'
  refine (walk W s0 w0 z0 a1 w1 a2 len2 cap2 z2 w2 (of_laid hL)).mono fun e W' ⟨he, hg⟩ => ?_
  subst he
  exact ⟨_, rfl, _, _, _, [], _, [], hW', trodAll_mk1 (shut_bool Tryd.underlying4 _), (trodAll_cons_mk (Below.trod laidOut (by kernel_rfl) (of_decide_eq_true (by kernel_rfl)) k0 hg lt0) (trodAll_cons_mk (shut_string Tryd.underlying9 w1) (trodAll_cons_mk (Below.trod laidOut (by kernel_rfl) (of_decide_eq_true (by kernel_rfl)) k2 hg lt2) trodAll_mk0))), rfl, hg.frame _, fun h => by cases h⟩
/-- The row: for every input, where the listed tables read as their initialisers lay them, the law returns true, and each argument reads as it did. -/
theorem row_proved : Rows.RecordTellsSaid :=
  OpenClaim.holds_of_wide 3 Tryd.f3 rfl rfl rfl rfl rfl rfl rfl ⟨rfl, rfl, rfl, rfl, rfl⟩ rfl rfl rfl rfl rfl (by kernel_rfl) Tryd.func3 (by kernel_rfl)
    (of_decide_eq_true (by kernel_rfl)) (by unfold Func.isWrapper; first | (rw [if_pos (by decide +kernel)]; kernel_rfl) | (rw [if_neg (by decide +kernel)]; exact ⟨rfl, rfl⟩))
    (fun os started H enc _ => lifted os started H enc)
/-- For every input the law returns true, and each argument reads as it did; what the listed tables hold is tied to the program's text. -/
theorem proved : Rows.RecordTellsCardSaid :=
  Claim7.holds_tied_plain_at .later [] [.data, .pinned] true (true, "1ae6a37698d2e24b5c769eff56949aa43403232362c262ec4616dca1f2bd7c63") false
    row_proved (fun _ h => by cases h) (by kernel_rfl) (fun _ h => by cases h) recordTells_row_tie rfl ⟨rfl, rfl⟩ (by kernel_rfl) rfl
    (fun f fn hf hfn => by
      obtain rfl : f = 3 := Option.some.inj ((show Tryd.prog.funcNamed "revetment/revetmentlaw12.RecordTells" = some 3 by kernel_rfl).symm.trans hf) |>.symm
      obtain rfl : fn = Tryd.f3 := (Option.some.inj (Tryd.func3.symm.trans hfn)).symm
      exact ⟨by kernel_rfl, fun j t ht => by
        rw [Tryd.params3] at ht
        have hm : t ∈ [25, 9, 26] := by simpa using Array.mem_of_getElem? ht
        have hall : ([25, 9, 26].all fun u => !Tryd.prog.wantsStandIn u) = true := by kernel_rfl
        exact (show Tryd.prog.wantsStandIn t = false by simpa using List.all_eq_true.1 hall t hm)⟩)
    (by kernel_rfl)
end Go.Proofs.YtmikllmpinciiaaDoor.recordTells
