/- For all columns, two places and a byte the law SyndromeGood returns true: a row with its own P and Q is good, and with one byte that is another one it is not (up to the law's own bound on lengths; beyond it the law says nothing). No condition. -/
import Derived.Test.YtekpamadimachaaSyn05
import Derived.Test.YtekpamadimachaaSynOne
import Derived.ProofKit
import Derived.OpenShut
import Derived.ShutString
import Derived.ChangeOld
import Derived.Below
namespace Go.Proofs.Ytekpamadimachaa.syndromeGood
open Go.ChangeShapes Go.WideShapes Go.ChangeAt Go.RowKit
open Go.ChangeMaps (open_string shut_string)

set_option maxRecDepth 100000 in
set_option maxHeartbeats 8000000 in
theorem walk_nat (w : World) (a0 : Option Addr) (n cap0 : Nat) (f : Nat → ByteArray) (hr0 : RowS w a0 n f) (hm : n ≤ maxLen) (hsz0 : ∀ j, (f j).size ≤ maxLen) (k at_ by_ : Nat) (hk : k < 256) (ha : at_ < 256) (hby : by_ < 256) :
    Calls Try.prog 5 #[.slice a0 n cap0, .int .u8 k, .int .u8 at_, .int .u8 by_] w fun e w' => e = .returned (.bool true) ∧ Below w.heap.size w w' := by
  have HY0 := heavy5_any w a0 n cap0 f hr0 hsz0 hm
  clear hsz0 hm
  go_enter Try.func5, Try.ntmps5
  go_wp2_with fail
  refine HY0.mono ?_
  rintro e w' ⟨hw, h⟩
  subst w'
  clear HY0
  rcases h with rfl | ⟨rfl, hL⟩
  · go_wp2_with fail
    refine (shown5_any _).mono ?_
    rintro e w1 ⟨rfl, b1⟩
    go_wp2
    go_ret
    exact ⟨rfl, b1⟩
  · have hn40 := hL.1
    have F0 : Hid (Fits 1048576 n f) := hL.fits
    have R0 : Hid (RowS w a0 n f) := hr0
    have HMX : Hid (Try.prog.follows .mixedOrders = true) := by show _ = _; kernel_rfl
    clear hr0 hL
    go_wp2_with fail
    refine (shown5_any _).mono ?_
    rintro e w1 ⟨rfl, b1⟩
    have B1 : Hid (Below w.heap.size w w1) := b1
    have OWN1 : Hid ((w1.alloc (.cells #[] 9)).ownsRow w1.heap.size 9 1 (.slice (some ⟨w1.heap.size, 0, none⟩) 0 0) 0 (textVals 0 f)) := World.ownsRow_made w1 #[] 0 (Nat.le_refl _) (by decide) rfl
    have R1 : Hid (RowS (w1.alloc (.cells #[] 9)) a0 n f) := R0.out.below (b1.trans (((Below.refl _ w1).alloc (Nat.le_refl _) _).mono b1.size))
    have e0 : 0 + n = n := by omega
    have t1 : True := trivial
    have N20 : n ≤ 1048576 := by omega
    clear b1
    go_wp2_with (at_builtin; have _t := t1; refine wpList_append_texts _ rfl _ _ rfl w1.heap.size w1.heap.size 0 0 f rfl OWN1.out a0 n cap0 f rfl R1.out (by omega) (by simp) ?_; intro g1 c1 w2 own2 grow2 lies2; rw [e0] at own2; (have OWN2 : Hid (w2.ownsRow w1.heap.size 9 1 (.slice (some ⟨g1, 0, none⟩) n c1) n (textVals n (joinF 0 f f))) := own2); (have B2 : Hid (Below w1.heap.size w1 w2) := below_joined ((Below.refl _ w1).alloc (Nat.le_refl _) _) (by simp) OWN1.out grow2); clear own2 grow2 lies2 t1)
    have hb2 := B2.out
    have R2 := R0.out.below (B1.out.trans (hb2.mono B1.out.size))
    refine (P_any n f N20 F0.out a0 cap0 _ R2).mono ?_
    rintro e w3 ⟨rfl, b3⟩
    have R3 := R2.below b3
    go_wp2_with fail
    refine (Q_any n f N20 F0.out a0 cap0 _ R3).mono ?_
    rintro e w4 ⟨rfl, b4⟩
    have b4 := below2 b3 b4
    have hF : textVals n (joinF 0 f f) = textVals n f := textVals_congr fun j _ => by unfold joinF; rw [if_neg (by omega), Nat.sub_zero]
    have OWN4 : Hid (w4.ownsRow w1.heap.size 9 1 (.slice (some ⟨g1, 0, none⟩) n c1) n (textVals n f)) := by
      show World.ownsRow _ _ _ _ _ _ _; rw [← hF]; exact ownsRow_below OWN2.out b4
    have B4 : Hid (Below w1.heap.size w1 w4) := hb2.trans (b4.mono hb2.size)
    have hsz4 := B4.out.size
    have ONE : Hid (RowS (w4.alloc (.cells #[.string (Gfm.addF n f), .string (Gfm.addF n (Gfm.qT f))] 9)) (some ⟨w4.heap.size, 0, none⟩) 2 (two (Gfm.addF n f) (Gfm.addF n (Gfm.qT f)))) := RowS.two _ _ _ _
    have GOOD : Hid (goodF n (ownRow n f) = true) := own_good n f
    have BAD : Hid (∀ r, r < n + 2 → ∀ t j, Gfm.byt (ownRow n f r) j ≠ Gfm.byt t j → goodF n (Gfm.upd (ownRow n f) r t) = false) := fun r hr t j h => own_bad n f hr t j h
    have FIT : Hid (Fits 1048576 (n + 2) (ownRow n f)) := F0.out.own
    have OWNF : Hid (joinF n f (two (Gfm.addF n f) (Gfm.addF n (Gfm.qT f))) = ownRow n f) := rfl
    have t2 : True := trivial
    obtain ⟨N, hN2⟩ : ∃ N, n + 2 = N := ⟨_, rfl⟩
    clear R2 R3 b3 b4 hb2 hF
    obtain ⟨P0, hP0⟩ : ∃ y, Gfm.addF n f = y := ⟨_, rfl⟩
    obtain ⟨Q0, hQ0⟩ : ∃ y, Gfm.addF n (Gfm.qT f) = y := ⟨_, rfl⟩
    obtain ⟨F, hF⟩ : ∃ F, ownRow n f = F := ⟨_, rfl⟩
    rw [hF] at GOOD BAD FIT OWNF
    rw [hP0] at ONE OWNF
    rw [hQ0] at ONE OWNF
    rw [hP0, hQ0]
    clear hP0 hQ0 hF
    go_wp2_with (at_builtin; have _t := t2; refine wpList_append_texts _ rfl _ _ rfl w1.heap.size g1 n c1 f rfl (OWN4.out.alloc _) (some ⟨w4.heap.size, 0, none⟩) 2 2 (two P0 Q0) rfl ONE.out (by omega) (by simp; omega) ?_; intro g2 c2 w5 own5 grow5 lies5; rw [OWNF.out] at own5; (have OWN5 : Hid (w5.ownsRow w1.heap.size 9 1 (.slice (some ⟨g2, 0, none⟩) (n + 2) c2) (n + 2) (textVals (n + 2) F)) := own5); (have B5 : Hid (Below w1.heap.size w1 w5) := below_joined (B4.out.alloc hsz4 _) (by simp; omega) (OWN4.out.alloc _) grow5); clear own5 grow5 lies5 t2)
    obtain ⟨ar, cr, er, r5, hc5, _⟩ := RowS.of_owns OWN5.out
    cases er
    have HG := Good_some n F (by omega) FIT.out _ c2 hc5 _ r5
    rw [GOOD.out, hN2] at HG
    refine HG.mono ?_
    rintro e w6 ⟨rfl, b6⟩
    obtain ⟨r, hr⟩ : ∃ r : Nat, r = k % N := ⟨_, rfl⟩
    have hrN : r < N := by rw [hr]; exact Nat.mod_lt _ (by omega)
    have hrm : (k : Int).tmod (N : Int) = (r : Int) := by rw [hr, Int.tmod_eq_emod_of_nonneg (by omega)]; omega
    have own6 := ownsRow_below OWN5.out b6
    rw [hN2] at own6
    have hcr : w6.cell? ⟨g2, r, none⟩ = some (.string (F r)) := by rw [own6.cellAt r (by omega)]; exact textVals_at F hrN
    have hfr : w6.frozen? ⟨g2, r, none⟩ = false := own6.frozenAt r
    have HFR : Hid (w6.frozen? ⟨g2, r, none⟩ = false) := hfr
    have OWN6 : Hid (w6.ownsRow w1.heap.size 9 1 (.slice (some ⟨g2, 0, none⟩) N c2) N (textVals N F)) := own6
    have B6 : Hid (Below w1.heap.size w1 w6) := B5.out.trans (b6.mono B5.out.size)
    have BADR := fun t j h => BAD.out r (by omega) t j h
    have hsr := FIT.out r (by omega)
    obtain ⟨s, hs⟩ : ∃ s, F r = s := ⟨_, rfl⟩
    rw [hs] at hcr hsr BADR
    have BADT : Hid (∀ t j, Gfm.byt s j ≠ Gfm.byt t j → goodF n (Gfm.upd F r t) = false) := BADR
    have HN2 : Hid (n + 2 = N) := hN2
    have hN42 : N ≤ 42 := by omega
    have HLOW : Hid (Below w.heap.size w w6) := B1.out.trans (B6.out.mono B1.out.size)
    have hrI : (r : Int) < (N : Int) := by omega
    clear HG BADR hr own6 hs r5 b6 hfr hN2
    by_cases hs0 : s.size = 0
    · have hs0' : ((s.size : Int) == 0) = true := by rw [beq_iff_eq]; omega
      clear hs0
      go_wp2
      go_ret
      exact ⟨rfl, HLOW.out⟩
    · have hs0' : ((s.size : Int) == 0) = false := by rw [beq_eq_false_iff_ne]; omega
      by_cases hb0 : by_ = 0
      · subst hb0
        have hb0' : (((0 : Nat) : Int) == 0) = true := by decide
        clear hs0
        go_wp2
        go_ret
        exact ⟨rfl, HLOW.out⟩
      · have hb0' : ((by_ : Int) == 0) = false := by rw [beq_eq_false_iff_ne]; omega
        have hpos : (0 : Int) < (s.size : Int) := by omega
        obtain ⟨i, hi⟩ : ∃ i : Nat, i = at_ % s.size := ⟨_, rfl⟩
        have hil : i < s.size := by rw [hi]; exact Nat.mod_lt _ (by omega)
        have hrr : (at_ : Int).tmod (s.size : Int) = (i : Int) := by rw [hi, Int.tmod_eq_emod_of_nonneg (by omega)]; omega
        have x1 := u8_xor_nat s[i].toNat by_ s[i].toNat_lt hby
        have hxl := Nat.xor_lt_two_pow (n := 8) s[i].toNat_lt hby
        obtain ⟨c, hc⟩ : ∃ c : UInt8, c.toNat = s[i].toNat ^^^ by_ := ⟨UInt8.ofNat (s[i].toNat ^^^ by_), by rw [UInt8.toNat_ofNat']; omega⟩
        have hcne : Gfm.byt s i ≠ c := by
          intro e
          have e2 : Gfm.byt s i = s[i] := byte_at hil
          rw [← e, e2] at hc
          refine hb0 ?_
          have : s[i].toNat ^^^ (s[i].toNat ^^^ by_) = 0 := by rw [← hc, Nat.xor_self]
          rwa [← Nat.xor_assoc, Nat.xor_self, Nat.zero_xor] at this
        have hcv : ∀ W : World, (convert 33 9 (.slice (some ⟨W.heap.size, 0, none⟩) 1 1)).run Try.prog (W.alloc (.cells #[.int .u8 ((s[i].toNat ^^^ by_ : Nat) : Int)] 5)).drew = .ok (.string ⟨#[c]⟩) (W.alloc (.cells #[.int .u8 ((s[i].toNat ^^^ by_ : Nat) : Int)] 5)).drew := by
          intro W
          rw [← hc]
          refine run_convert_bytes_back _ _ _ 5 _ 1 [c] Try.underlying33 Try.underlying5 Try.underlying9 fun j hj => ?_
          have hj0 : j = 0 := by simpa using hj
          subst hj0
          exact cell_one_new _ _ _ 0 _ rfl
        obtain ⟨z1, z2⟩ := put_byte s i hil c
        obtain ⟨t, ht⟩ : ∃ t, s.extract 0 i ++ ⟨#[c]⟩ ++ s.extract (i + 1) s.size = t := ⟨_, rfl⟩
        rw [ht] at z1 z2
        have FALSE : Hid (goodF n (Gfm.upd F r t) = false) := BADT.out t i (by rw [z2]; exact hcne)
        have TS : Hid (t.size ≤ 1048576) := by show _ ≤ _; rw [z1]; exact hsr
        have hal : (w6.alloc (.cells #[.int .u8 ((s[i].toNat ^^^ by_ : Nat) : Int)] 5)).cell? ⟨g2, r, none⟩ = some (.string s) := keep_one ((Below.refl _ w6).alloc (Nat.le_refl _) _) hcr
        have hfa : (w6.alloc (.cells #[.int .u8 ((s[i].toNat ^^^ by_ : Nat) : Int)] 5)).frozen? ⟨g2, r, none⟩ = false := (OWN6.out.alloc _).frozenAt r
        clear z1 z2 hcne hc hi hs0 hb0 hxl
        go_wp2
        go_region
        have own7 := ((OWN6.out.alloc (.cells #[.int .u8 ((s[i].toNat ^^^ by_ : Nat) : Int)] 5)).stored r (.string t)).1
        rw [textVals_set] at own7
        obtain ⟨a7, k7, e7, r7, hc7, _⟩ := RowS.of_owns own7
        cases e7
        have hsz6 := B6.out.size
        have B7 : Hid (Below w1.heap.size w1 ((w6.alloc (.cells #[.int .u8 ((s[i].toNat ^^^ by_ : Nat) : Int)] 5)).setCell ⟨g2, r, none⟩ (.string t)).drew) :=
          ((B6.out.alloc hsz6 _).setCell (p := ⟨g2, r, none⟩) (owns_low OWN6.out) _).drew
        have HG := Good_some n (Gfm.upd F r t) (by omega) (FIT.out.upd TS.out) (some ⟨g2, 0, none⟩) c2 (by rw [HN2.out]; exact hc7) _ (by rw [HN2.out]; exact r7.drew)
        rw [FALSE.out, HN2.out] at HG
        go_wp2_with fail
        refine HG.mono ?_
        rintro e w8 ⟨rfl, b8⟩
        have HB8 : Hid (Below w.heap.size w w8) := B1.out.trans ((B7.out.trans (b8.mono B7.out.size)).mono B1.out.size)
        clear b8 HG r7 own7
        go_wp2
        go_ret
        exact ⟨rfl, HB8.out⟩
theorem walk (w : World) (a0 : Option Addr) (len0 cap0 : Nat) (z0 : List ByteArray) (w0 : IsStrs w a0 len0 cap0 z0) (a1 : Int) (w1 : (Lit.int .u8 a1).wf = true) (a2 : Int) (w2 : (Lit.int .u8 a2).wf = true) (a3 : Int) (w3 : (Lit.int .u8 a3).wf = true) :
    Calls Try.prog 5 #[.slice a0 len0 cap0, .int .u8 a1, .int .u8 a2, .int .u8 a3] w fun e w' => e = .returned (.bool true) ∧ Below w.heap.size w w' := by
  obtain ⟨f, hm0, hcap0, hsz0, hr0⟩ := w0.open5
  have b1 := bounds_u8 w1
  have b2 := bounds_u8 w2
  have b3 := bounds_u8 w3
  obtain ⟨k, rfl⟩ := Int.eq_ofNat_of_zero_le b1.1
  obtain ⟨i, rfl⟩ := Int.eq_ofNat_of_zero_le b2.1
  obtain ⟨b, rfl⟩ := Int.eq_ofNat_of_zero_le b3.1
  exact walk_nat w a0 len0 cap0 f hr0 hm0 hsz0 k i b (by omega) (by omega) (by omega)

theorem own : ownKnob Try.prog.godebug = none := by kernel_rfl
theorem laidOut : laidOutB Try.prog = true := by kernel_rfl
set_option linter.unusedVariables false in
set_option maxRecDepth 100000 in
theorem lifted (os : Os) (started : os.Started) (H : Type) (enc : TypeId × Value → H) :
    ReturnsInHanded {} Try.checked os 5 .any (Rows.syndromeGoodSpec.pre6 enc Try.prog Try.f5 Rows.syndromeGoodRow.domain false) (Rows.syndromeGoodSpec.post enc Try.prog Try.f5 false true false false) := by
  refine returnsInHanded_of_change (C := Try.checked) own started (by kernel_rfl) Try.func5
    (ChangeSpec.witness6 (enc := enc) (C := Try.checked) false ⟨#[], #[.slice none 0 0, .int .u8 0, .int .u8 0, .int .u8 0], []⟩ 8 (by kernel_rfl) (by kernel_rfl) (by kernel_rfl) (by kernel_rfl)) ?_
  intro W base args ds gs before hval0 hW hcnd _
  have hval : ∀ (j : Nat) t v, Try.f5.params[j]? = some t → args[j]? = some v → Value.okWide Try.prog W .any base t v := hval0
  have hW' := hW
  obtain ⟨p, q, hA0, hV, rfl, hfz, hnd⟩ := hW
  have hA : DataW.TrodAll enc Try.prog W 0 (fun _ => true) true Try.f5.params.toList args.toList ds p := hA0
  rw [Try.params5] at hA hval
  obtain ⟨v0, vs0, d0, ds0, p0, q0, hargs, rfl, rfl, h0, r0⟩ := trodAll_cons hA
  obtain ⟨v1, vs1, d1, ds1, p1, q1, rfl, rfl, rfl, h1, r1⟩ := trodAll_cons r0
  obtain ⟨v2, vs2, d2, ds2, p2, q2, rfl, rfl, rfl, h2, r2⟩ := trodAll_cons r1
  obtain ⟨v3, vs3, d3, ds3, p3, q3, rfl, rfl, rfl, h3, r3⟩ := trodAll_cons r2
  obtain ⟨rfl, rfl, rfl⟩ := trodAll_nil r3
  obtain rfl : args = #[v0, v1, v2, v3] := by cases args; simp_all
  obtain ⟨rfl, rfl⟩ := trodVars_none hV
  obtain ⟨a0, len0, cap0, rfl⟩ := okWide_slice Try.underlying22 (hval 0 22 v0 rfl rfl)
  have k0 := h0
  have lt0 : ∀ x ∈ p0, x.block < W.heap.size := by obtain ⟨m, hm⟩ := k0; exact DataW.trod_lt m _ _ _ hm
  obtain ⟨z0, w0⟩ : ∃ zs, IsStrs W a0 len0 cap0 zs := by
    obtain ⟨fuel, hf⟩ := h0
    rcases open_strings Try.underlying22 Try.underlying9 (by kernel_rfl) hf with ⟨hcs, _⟩ | ⟨x, l, c, zs, hcs, _, hl, hm, hz, _, hcell, hwz⟩
    · simp [Value.cells] at hcs
      obtain ⟨rfl, rfl, rfl⟩ := hcs
      exact ⟨[], .inl ⟨rfl, rfl, rfl, rfl⟩⟩
    · simp [Value.cells] at hcs
      obtain ⟨rfl, rfl, rfl⟩ := hcs
      exact ⟨zs, .inr ⟨_, rfl, hl, hm, by simpa using hz, hcell, hwz⟩⟩
  obtain ⟨a1, rfl, rfl, rfl, w1⟩ := open_int Try.underlying5 (hval 1 5 v1 rfl rfl) h1
  obtain ⟨a2, rfl, rfl, rfl, w2⟩ := open_int Try.underlying5 (hval 2 5 v2 rfl rfl) h2
  obtain ⟨a3, rfl, rfl, rfl, w3⟩ := open_int Try.underlying5 (hval 3 5 v3 rfl rfl) h3
  clear hA0 hval0
  simp only [List.append_nil] at hW'
  refine (walk W a0 len0 cap0 z0 w0 a1 w1 a2 w2 a3 w3).mono fun e W' ⟨he, hg⟩ => ?_
  subst he
  exact ⟨_, rfl, _, _, _, [], _, [], hW', trodAll_mk1 (shut_bool Try.underlying4 _), (trodAll_cons_mk (Below.trod laidOut (by kernel_rfl) (of_decide_eq_true (by kernel_rfl)) k0 hg lt0) (trodAll_cons_mk (shut_int Try.underlying5 w1) (trodAll_cons_mk (shut_int Try.underlying5 w2) (trodAll_cons_mk (shut_int Try.underlying5 w3) trodAll_mk0)))), rfl, hg.frame _, fun h => by cases h⟩
/-- For every input the law returns true, and each argument reads as it did. -/
theorem proved : Rows.SyndromeGoodSaid :=
  OpenClaim.holds_of_wide 5 Try.f5 rfl rfl rfl rfl rfl rfl rfl ⟨rfl, rfl, rfl, rfl, rfl⟩ rfl rfl rfl rfl rfl (by kernel_rfl) Try.func5 (by kernel_rfl)
    (of_decide_eq_true (by kernel_rfl)) (by unfold Func.isWrapper; first | (rw [if_pos (by decide +kernel)]; kernel_rfl) | (rw [if_neg (by decide +kernel)]; exact ⟨rfl, rfl⟩))
    (fun os started H enc _ => lifted os started H enc)
end Go.Proofs.Ytekpamadimachaa.syndromeGood
