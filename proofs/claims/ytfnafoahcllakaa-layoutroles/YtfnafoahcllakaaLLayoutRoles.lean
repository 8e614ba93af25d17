/- For every number of columns, sectors of a column and row the law LayoutRoles returns true: in each row each column has one role, and each role one column; over as many rows as there are columns each column has each role once. No condition. -/
import Derived.Test.YtfnafoahcllakaaLay07
import Derived.ProofKit
import Derived.OpenShut
import Derived.ShutString
import Derived.Deep.LoopGhost
namespace Go.Proofs.Ytfnafoahcllakaa.layoutRoles
open Go.ChangeShapes Go.WideShapes Go.ChangeAt Go.RowKit
open Go.ChangeMaps (open_string shut_string)

/-- of n roles, counted round from t on, role j is one -/
def had (c t : Int) (n j : Nat) : Bool := decide ((j : Int) < c ∧ ((j : Int) - t) % c < n)
theorem had_zero (c t : Int) (hc : 0 < c) (j : Nat) : had c t 0 j = false := by
  unfold had
  have := Int.emod_nonneg ((j : Int) - t) (show c ≠ 0 by omega)
  rw [decide_eq_false_iff_not]; omega
theorem cases7 {c : Int} (c1 : 4 ≤ c) (c2 : c ≤ 10) : c = 4 ∨ c = 5 ∨ c = 6 ∨ c = 7 ∨ c = 8 ∨ c = 9 ∨ c = 10 := by omega
theorem had_new {c t : Int} (c1 : 4 ≤ c) (c2 : c ≤ 10) (_t1 : 0 ≤ t) (_t2 : t < c) {n x : Nat} (hn : (n : Int) < c) (hx : (x : Int) = (t + n) % c) : had c t n x = false := by
  unfold had
  rw [decide_eq_false_iff_not]
  rcases cases7 c1 c2 with rfl | rfl | rfl | rfl | rfl | rfl | rfl <;> omega
theorem had_next {c t : Int} (c1 : 4 ≤ c) (c2 : c ≤ 10) (_t1 : 0 ≤ t) (_t2 : t < c) {n x : Nat} (hn : (n : Int) < c) (hx : (x : Int) = (t + n) % c) (j : Nat) (hj : j < 10) :
    (if j = x then Value.bool true else .bool (had c t n j)) = .bool (had c t (n + 1) j) := by
  by_cases h : j = x
  · rw [if_pos h]
    congr 1
    unfold had
    symm
    rw [decide_eq_true_iff]
    subst h
    rcases cases7 c1 c2 with rfl | rfl | rfl | rfl | rfl | rfl | rfl <;> omega
  · rw [if_neg h]
    congr 1
    unfold had
    rw [decide_eq_decide]
    rcases cases7 c1 c2 with rfl | rfl | rfl | rfl | rfl | rfl | rfl <;> omega
/-- the roles of a row, and of the rows behind it -/
theorem roles {c k r p : Int} (h : Lay.ok c k r) (p1 : 0 ≤ p) (p2 : p + c < r) :
    (∀ x, 0 ≤ x → x < c → (0 ≤ Lay.roleI c k r p x ∧ Lay.roleI c k r p x < c) ∧ Lay.roleI c k r p x = (Lay.roleI c k r p 0 + x) % c) ∧
    (∀ x i, 0 ≤ x → x < c → 0 ≤ i → i < c → Lay.roleI c k r (p + i) x = (Lay.roleI c k r p x + i) % c) := by
  have c1 := h.1.1
  have c2 := h.1.2
  have r0 : Lay.hasRow c k r p := ⟨h, p1, by omega⟩
  have e0 : ∀ x, 0 ≤ x → x < c → Lay.roleI c k r p x = (x - (c - 1 - p % c + 1) % c - 1) % c := fun x a b => if_pos ⟨r0, a, b⟩
  have e1 : ∀ x i, 0 ≤ x → x < c → 0 ≤ i → i < c → Lay.roleI c k r (p + i) x = (x - (c - 1 - (p + i) % c + 1) % c - 1) % c := fun x i a b d e => if_pos ⟨⟨h, by omega, by omega⟩, a, b⟩
  refine ⟨fun x x1 x2 => ⟨?_, ?_⟩, fun x i x1 x2 i1 i2 => ?_⟩
  · rw [e0 x x1 x2]; exact ⟨Int.emod_nonneg _ (by omega), Int.emod_lt_of_pos _ (by omega)⟩
  · rw [e0 x x1 x2, e0 0 (by omega) (by omega)]
    clear e0 e1 r0 h p2
    rcases cases7 c1 c2 with rfl | rfl | rfl | rfl | rfl | rfl | rfl <;> omega
  · rw [e1 x i x1 x2 i1 i2, e0 x x1 x2]
    clear e0 e1 r0 h p2
    rcases cases7 c1 c2 with rfl | rfl | rfl | rfl | rfl | rfl | rfl <;> omega
theorem row_new (w : World) (t : TypeId) (f : Nat → Value) (hf : ∀ j, j < 10 → f j = .bool false) : rowV (w.alloc (.cells #[.bool false, .bool false, .bool false, .bool false, .bool false, .bool false, .bool false, .bool false, .bool false, .bool false] t)) w.heap.size 10 f := by
  refine rowV_new w #[.bool false, .bool false, .bool false, .bool false, .bool false, .bool false, .bool false, .bool false, .bool false, .bool false] t f fun j hj => ?_
  have hj' : j < 10 := hj
  rw [hf j hj']
  have : j = 0 ∨ j = 1 ∨ j = 2 ∨ j = 3 ∨ j = 4 ∨ j = 5 ∨ j = 6 ∨ j = 7 ∨ j = 8 ∨ j = 9 := by omega
  rcases this with rfl | rfl | rfl | rfl | rfl | rfl | rfl | rfl | rfl | rfl <;> rfl
theorem rowV.at_ {w : World} {g n : Nat} {f : Nat → Value} (h : rowV w g n f) {b : Nat} (hb : g ≠ b) (j : Nat) (v : Value) : rowV (w.setCell ⟨b, j, none⟩ v) g n f := fun i hi => by
  obtain ⟨h1, h2⟩ := h i hi
  exact ⟨by rw [World.cell?_setCell_other _ _ _ _ (fun e => hb (by injection e with e1; exact e1.symm))]; exact h1, by rw [World.frozen?_setCell]; exact h2⟩
theorem Shp.at_ {w W : World} {b : Nat} {c k r : Int} (h : Shp w W b c k r) {g : Nat} (hg : b < g) (hw : w.heap.size ≤ g) (j : Nat) (v : Value) : Shp w (W.setCell ⟨g, j, none⟩ v) b c k r := by
  have hne : ∀ i, (⟨g, j, none⟩ : Addr) ≠ ⟨b, i, none⟩ := fun i e => by injection e with e1; omega
  obtain ⟨⟨h0, h1, h2⟩, hb⟩ := h
  exact ⟨⟨by rw [World.cell?_setCell_other _ _ _ _ (hne _)]; exact h0, by rw [World.cell?_setCell_other _ _ _ _ (hne _)]; exact h1, by rw [World.cell?_setCell_other _ _ _ _ (hne _)]; exact h2⟩, hb.setCell (p := ⟨g, j, none⟩) hw v⟩

set_option maxRecDepth 100000 in
set_option maxHeartbeats 4000000 in
theorem walk_int (a b x : Int) (a1 : 0 ≤ a ∧ a ≤ 255) (b1 : 0 ≤ b ∧ b ≤ 255) (x1 : 0 ≤ x ∧ x ≤ 255) (w : World) :
    Calls Try.prog 5 #[.int .u8 a, .int .u8 b, .int .u8 x] w fun e w' => e = .returned (.bool true) ∧ Below w.heap.size w w' := by
  have HMX : Hid (Try.prog.follows .mixedOrders = true) := by show _ = _; kernel_rfl
  have hG := fun W => good_any a b 255 a1 b1 (by omega) W
  have ho := Lay.good_ok a b 255 (by omega)
  obtain ⟨c, hc⟩ : ∃ c, 4 + a % 7 = c := ⟨_, rfl⟩
  obtain ⟨k, hk⟩ : ∃ k, 1 + b % 4 = k := ⟨_, rfl⟩
  obtain ⟨r, hr⟩ : ∃ r : Int, 1 + 255 = r := ⟨_, rfl⟩
  rw [hc, hk, hr] at hG ho
  obtain ⟨⟨c1, c2⟩, ⟨k1, k2⟩, r1, r2⟩ := id ho
  have hr6 : r = 256 := by omega
  obtain ⟨p, hp⟩ : ∃ p, x % (r - c) = p := ⟨_, rfl⟩
  have ep : x.tmod (r - c) = p := by rw [Int.tmod_eq_emod_of_nonneg x1.1]; exact hp
  have pp1 : 0 ≤ p := by rw [← hp]; exact Int.emod_nonneg x (by omega)
  have pp2 : p < r - c := by rw [← hp]; exact Int.emod_lt_of_pos x (by omega)
  have hRS := roles (p := p) ho pp1 (by omega)
  have HRS : Hid _ := hRS
  have HRC : Hid (∀ C : Int, 0 ≤ C → C < c → _) := fun C (h1 : 0 ≤ C) (h2 : C < c) => Lay.role_cases (c := c) (k := k) (r := r) (row := p) ⟨ho, pp1, by omega⟩ h1 h2
  obtain ⟨s, hs⟩ : ∃ s, Lay.roleI c k r p 0 = s := ⟨_, rfl⟩
  have s1 : 0 ≤ s ∧ s < c := by rw [← hs]; exact (hRS.1 0 (by omega) (by omega)).1
  have hP := fun W => Parity_any c k r p W
  have HPQ : Hid (Lay.parP c k r p ≠ Lay.parQ c k r p) := by
    show _ ≠ _
    rw [show Lay.parP c k r p = c - 1 - p % c from if_pos ⟨ho, pp1, by omega⟩, show Lay.parQ c k r p = (c - 1 - p % c + 1) % c from if_pos ⟨ho, pp1, by omega⟩]
    clear hRS HRS HRC hP hG ho ep hp
    rcases cases7 c1 c2 with rfl | rfl | rfl | rfl | rfl | rfl | rfl <;> omega
  obtain ⟨P, eP⟩ : ∃ P, Lay.parP c k r p = P := ⟨_, rfl⟩
  obtain ⟨Q, eQ⟩ : ∃ Q, Lay.parQ c k r p = Q := ⟨_, rfl⟩
  rw [eP, eQ] at hP HPQ
  have EP : Hid (Lay.parP c k r p = P) := eP
  have EQ : Hid (Lay.parQ c k r p = Q) := eQ
  have ES : Hid (Lay.roleI c k r p 0 = s) := hs
  have rz : ¬ r - c = 0 := by omega
  obtain ⟨x0, x9⟩ := x1
  obtain ⟨s0, s9⟩ := s1
  clear hc hk hr hp ho hRS eP eQ hs a1 b1 hr6
  have HS0 : Hid (0 ≤ s ∧ s < c) := ⟨s0, s9⟩
  obtain ⟨cN, hcN⟩ := Int.eq_ofNat_of_zero_le (show 0 ≤ c by omega)
  have EC : Hid (c = (cN : Int)) := hcN
  clear hcN
  clear s0 s9
  unfold geoV at *
  go_enter Try.func5, Try.ntmps5
  go_wp2_with fail
  refine (hG _).mono ?_
  rintro e w1 ⟨rfl, b⟩
  have H0 : Hid _ := start_at b c k r 23
  have HWW : Hid (w.heap.size ≤ w1.heap.size) := b.size
  clear b
  obtain ⟨p0, p1, p2⟩ := H0.out.1
  go_wp2_with fail
  obtain ⟨w2, hw2⟩ : ∃ w2, ((w1.alloc (.cells #[.int .i64 c, .int .i64 k, .int .i64 r] 23)).alloc (.cells #[.bool false, .bool false, .bool false, .bool false, .bool false, .bool false, .bool false, .bool false, .bool false, .bool false] 40)) = w2 := ⟨_, rfl⟩
  have hrow := row_new (w1.alloc (.cells #[.int .i64 c, .int .i64 k, .int .i64 r] 23)) 40 (fun j => .bool (had c s 0 j)) (fun j _ => by rw [had_zero c s (by omega) j])
  simp only [World.size_alloc] at hrow
  have H1 : Hid (Shp w w2 w1.heap.size c k r) := by
    show Shp _ _ _ _ _ _
    rw [← hw2]
    exact ⟨H0.out.1.below ((Below.refl _ _).alloc (Nat.le_refl _) _) (by simp), H0.out.2.alloc H0.out.2.size _⟩
  rw [hw2] at hrow ⊢
  have HR : Hid (rowV w2 (w1.heap.size + 1) 10 (fun j => .bool (had c s 0 j))) := hrow
  have HZ : Hid (w1.heap.size + 1 < w2.heap.size) := by show _ < _; rw [← hw2]; simp
  clear hw2 hrow H0 p0 p1 p2
  refine (hP _).mono ?_
  rintro e w3 ⟨rfl, b⟩
  have H2 : Hid (Shp w w3 w1.heap.size c k r) := Shp.kept H1.out b
  have HR2 : Hid (rowV w3 (w1.heap.size + 1) 10 (fun j => .bool (had c s 0 j)) ∧ w1.heap.size + 1 < w3.heap.size) := ⟨HR.out.below b HZ.out, Nat.lt_of_lt_of_le HZ.out b.size⟩
  clear b H1 HR HZ hP
  go_wp2
  go_loopg [12] cN (fun gg n wr => ∃ C : Nat, C ≤ cN ∧ gg = cN - C ∧ n = .int .i64 (C : Nat) ∧ (rowV wr (w1.heap.size + 1) 10 (fun j => .bool (had c s C j)) ∧ w1.heap.size + 1 < wr.heap.size) ∧ Shp w wr w1.heap.size c k r)
  case atStart => exact ⟨0, by omega, rfl, rfl, HR2.out, H2.out⟩
  case round =>
    obtain ⟨C, hC, rfl, rfl, hr, hs⟩ := hrel
    have HR : Hid (rowV wr (w1.heap.size + 1) 10 (fun j => .bool (had c s C j)) ∧ w1.heap.size + 1 < wr.heap.size) := hr
    have HS : Hid (Shp w wr w1.heap.size c k r) := hs
    obtain ⟨p0, p1, p2⟩ := hs.1
    clear hr hs HR2 H2
    by_cases hCn : C < cN
    · have hCc : (C : Int) < c := by rw [EC.out]; omega
      obtain ⟨⟨v1, v2⟩, ev⟩ := HRS.out.1 C (by omega) hCc
      obtain ⟨_, f1, f2, f3, _⟩ := HRC.out C (by omega) hCc
      have hO := fun W => Role_any c k r p C W
      have hO2 := fun (I : Nat) (hI : (I : Int) < c) W => Role_any c k r (p + I) C W
      have hI2 := fun (I : Nat) (hI : (I : Int) < c) => HRS.out.2 C I (by omega) hCc (by omega) hI
      obtain ⟨v, hv⟩ := Int.eq_ofNat_of_zero_le v1
      rw [hv] at v1 v2 ev f1 f2 f3 hO
      simp only [hv] at hI2
      rw [ES.out] at ev
      rw [EP.out] at f1 f3
      rw [EQ.out] at f2 f3
      have v10 : v < 10 := by omega
      have HEV : Hid ((v : Int) = (s + (C : Nat)) % c) := ev
      have HI2 : Hid _ := hI2
      have HO2 : Hid _ := hO2
      clear hv ev hO2 hI2
      unfold geoV at hO
      by_cases hCP : (C : Int) = P
      · have b1 : ((v : Int) == c - 2) = true := by rw [beq_iff_eq]; exact f1 hCP
        have b2 : ((C : Int) == P) = true := by rw [beq_iff_eq]; exact hCP
        have b3 : ((v : Int) == c - 1) = false := by rw [beq_eq_false_iff_ne]; have := f1 hCP; omega
        have b4 : ((C : Int) == Q) = false := by rw [beq_eq_false_iff_ne]; exact fun e => HPQ.out (hCP.symm.trans e)
        have b5 : ¬ (v : Int) < c - 2 := by have := f1 hCP; omega
        clear f1 f2 f3 hCP
        go_wp2_with fail
        refine (hO _).mono ?_
        rintro e w4 ⟨rfl, b⟩
        have HR4 : Hid (rowV w4 (w1.heap.size + 1) 10 (fun j => .bool (had c s C j)) ∧ w1.heap.size + 1 < w4.heap.size) := ⟨HR.out.1.below b HR.out.2, Nat.lt_of_lt_of_le HR.out.2 b.size⟩
        have HS4 : Hid (Shp w w4 w1.heap.size c k r) := Shp.kept HS.out b
        clear b p0 p1 p2 HS HR hO
        obtain ⟨p0, p1, p2⟩ := HS4.out.1
        obtain ⟨h1, h1f⟩ := HR4.out.1 v v10
        dsimp only at h1
        rw [had_new c1 c2 HS0.out.1 HS0.out.2 hCc HEV.out] at h1
        go_wp2
        obtain ⟨w6, hw6⟩ : ∃ w6, ((w4.setCell ⟨w1.heap.size + 1, v, none⟩ (.bool true)).alloc (.cells #[.bool false, .bool false, .bool false, .bool false, .bool false, .bool false, .bool false, .bool false, .bool false, .bool false] 40)) = w6 := ⟨_, rfl⟩
        have h6 : (rowV w6 w4.heap.size 10 (fun j => .bool (had c v 0 j)) ∧ w4.heap.size < w6.heap.size) ∧ rowV w6 (w1.heap.size + 1) 10 (fun j => .bool (had c s (C + 1) j)) ∧ Shp w w6 w1.heap.size c k r := by
          rw [← hw6]
          have k1 := row_new (w4.setCell ⟨w1.heap.size + 1, v, none⟩ (.bool true)) 40 (fun j => .bool (had c v 0 j)) (fun j _ => by rw [had_zero c v (by omega) j])
          rw [World.size_setCell] at k1
          have k2 : rowV (w4.setCell ⟨w1.heap.size + 1, v, none⟩ (.bool true)) (w1.heap.size + 1) 10 (fun j => .bool (had c s (C + 1) j)) := (HR4.out.1.set v (.bool true)).mono (fun j hj => had_next c1 c2 HS0.out.1 HS0.out.2 hCc HEV.out j hj)
          have k3 := Shp.at_ HS4.out (g := w1.heap.size + 1) (by omega) (Nat.le_trans HWW.out (Nat.le_succ _)) v (.bool true)
          refine ⟨⟨k1, by simp⟩, k2.below ((Below.refl _ _).alloc (Nat.le_refl _) _) (by rw [World.size_setCell]; exact HR4.out.2), k3.1.below ((Below.refl _ _).alloc (Nat.le_refl _) _) k3.1.lt, k3.2.alloc k3.2.size _⟩
        have HB : Hid (w1.heap.size + 1 < w4.heap.size ∧ w.heap.size ≤ w4.heap.size) := ⟨HR4.out.2, HS4.out.2.size⟩
        clear p0 p1 p2 h1 h1f HS4 HR4 b1 b2 b3 b4
        try rw [hw6]
        clear hw6
        have H6 : Hid _ := h6
        clear h6
        go_loopg [15] cN (fun gg n wz => ∃ I : Nat, I ≤ cN ∧ gg = cN - I ∧ n = .int .i64 (I : Nat) ∧ (rowV wz w4.heap.size 10 (fun j => .bool (had c v I j)) ∧ w4.heap.size < wz.heap.size) ∧ rowV wz (w1.heap.size + 1) 10 (fun j => .bool (had c s (C + 1) j)) ∧ Shp w wz w1.heap.size c k r)
        case atStart => exact ⟨0, by omega, rfl, rfl, H6.out⟩
        case round =>
          obtain ⟨I, hI, rfl, rfl, hd, hr, hs⟩ := hrel
          have HD : Hid (rowV wr w4.heap.size 10 (fun j => .bool (had c v I j)) ∧ w4.heap.size < wr.heap.size) := hd
          have HR : Hid (rowV wr (w1.heap.size + 1) 10 (fun j => .bool (had c s (C + 1) j))) := hr
          have HS : Hid (Shp w wr w1.heap.size c k r) := hs
          obtain ⟨p0, p1, p2⟩ := hs.1
          clear hd hr hs H6
          by_cases hIn : I < cN
          · have hIc : (I : Int) < c := by rw [EC.out]; omega
            have hO := HO2.out I hIc
            obtain ⟨y, hy⟩ := Int.eq_ofNat_of_zero_le (Int.emod_nonneg ((v : Int) + (I : Int)) (show c ≠ 0 by omega))
            have hyc : (y : Int) < c := by rw [← hy]; exact Int.emod_lt_of_pos _ (by omega)
            rw [HI2.out I hIc, hy] at hO
            have y10 : y < 10 := by omega
            have HY : Hid ((y : Int) = ((v : Int) + (I : Nat)) % c) := hy.symm
            clear hy
            unfold geoV at hO
            go_wp2_with fail
            refine (hO _).mono ?_
            rintro e w7 ⟨rfl, b⟩
            have HD7 : Hid (rowV w7 w4.heap.size 10 (fun j => .bool (had c v I j)) ∧ w4.heap.size < w7.heap.size) := ⟨HD.out.1.below b HD.out.2, Nat.lt_of_lt_of_le HD.out.2 b.size⟩
            have HR7 : Hid (rowV w7 (w1.heap.size + 1) 10 (fun j => .bool (had c s (C + 1) j))) := HR.out.below b (Nat.lt_trans HB.out.1 HD.out.2)
            have HS7 : Hid (Shp w w7 w1.heap.size c k r) := Shp.kept HS.out b
            clear b p0 p1 p2 HS HR HD hO
            obtain ⟨p0, p1, p2⟩ := HS7.out.1
            obtain ⟨h1, h1f⟩ := HD7.out.1 y y10
            dsimp only at h1
            rw [had_new c1 c2 v1 v2 hIc HY.out] at h1
            go_wp2
            go_roundg (cN - (I + 1))
            case measure => omega
            case rel =>
              refine ⟨I + 1, by omega, rfl, by go_num, ⟨(HD7.out.1.set y (.bool true)).mono (fun j hj => had_next c1 c2 v1 v2 hIc HY.out j hj), by rw [World.size_setCell]; exact HD7.out.2⟩, rowV.at_ HR7.out (Nat.ne_of_lt HB.out.1) y _, Shp.at_ HS7.out (by have := HB.out.1; omega) HB.out.2 y _⟩
          · have hIe : I = cN := by omega
            have hIc : ¬ (I : Int) < c := by rw [EC.out]; omega
            clear hIe
            go_wp2
            go_roundg (cN - (C + 1))
            case measure => omega
            case rel => exact ⟨C + 1, by omega, rfl, by go_num, ⟨HR.out, Nat.lt_trans HB.out.1 HD.out.2⟩, HS.out⟩
      · have b2 : ((C : Int) == P) = false := by rw [beq_eq_false_iff_ne]; exact hCP
        by_cases hCQ : (C : Int) = Q
        · have b1 : ((v : Int) == c - 2) = false := by rw [beq_eq_false_iff_ne]; have := f2 hCQ; omega
          have b3 : ((v : Int) == c - 1) = true := by rw [beq_iff_eq]; exact f2 hCQ
          have b4 : ((C : Int) == Q) = true := by rw [beq_iff_eq]; exact hCQ
          have b5 : ¬ (v : Int) < c - 2 := by have := f2 hCQ; omega
          clear f1 f2 f3 hCP hCQ
          go_wp2_with fail
          refine (hO _).mono ?_
          rintro e w4 ⟨rfl, b⟩
          have HR4 : Hid (rowV w4 (w1.heap.size + 1) 10 (fun j => .bool (had c s C j)) ∧ w1.heap.size + 1 < w4.heap.size) := ⟨HR.out.1.below b HR.out.2, Nat.lt_of_lt_of_le HR.out.2 b.size⟩
          have HS4 : Hid (Shp w w4 w1.heap.size c k r) := Shp.kept HS.out b
          clear b p0 p1 p2 HS HR hO
          obtain ⟨p0, p1, p2⟩ := HS4.out.1
          obtain ⟨h1, h1f⟩ := HR4.out.1 v v10
          dsimp only at h1
          rw [had_new c1 c2 HS0.out.1 HS0.out.2 hCc HEV.out] at h1
          go_wp2
          obtain ⟨w6, hw6⟩ : ∃ w6, ((w4.setCell ⟨w1.heap.size + 1, v, none⟩ (.bool true)).alloc (.cells #[.bool false, .bool false, .bool false, .bool false, .bool false, .bool false, .bool false, .bool false, .bool false, .bool false] 40)) = w6 := ⟨_, rfl⟩
          have h6 : (rowV w6 w4.heap.size 10 (fun j => .bool (had c v 0 j)) ∧ w4.heap.size < w6.heap.size) ∧ rowV w6 (w1.heap.size + 1) 10 (fun j => .bool (had c s (C + 1) j)) ∧ Shp w w6 w1.heap.size c k r := by
            rw [← hw6]
            have k1 := row_new (w4.setCell ⟨w1.heap.size + 1, v, none⟩ (.bool true)) 40 (fun j => .bool (had c v 0 j)) (fun j _ => by rw [had_zero c v (by omega) j])
            rw [World.size_setCell] at k1
            have k2 : rowV (w4.setCell ⟨w1.heap.size + 1, v, none⟩ (.bool true)) (w1.heap.size + 1) 10 (fun j => .bool (had c s (C + 1) j)) := (HR4.out.1.set v (.bool true)).mono (fun j hj => had_next c1 c2 HS0.out.1 HS0.out.2 hCc HEV.out j hj)
            have k3 := Shp.at_ HS4.out (g := w1.heap.size + 1) (by omega) (Nat.le_trans HWW.out (Nat.le_succ _)) v (.bool true)
            refine ⟨⟨k1, by simp⟩, k2.below ((Below.refl _ _).alloc (Nat.le_refl _) _) (by rw [World.size_setCell]; exact HR4.out.2), k3.1.below ((Below.refl _ _).alloc (Nat.le_refl _) _) k3.1.lt, k3.2.alloc k3.2.size _⟩
          have HB : Hid (w1.heap.size + 1 < w4.heap.size ∧ w.heap.size ≤ w4.heap.size) := ⟨HR4.out.2, HS4.out.2.size⟩
          clear p0 p1 p2 h1 h1f HS4 HR4 b1 b2 b3 b4
          try rw [hw6]
          clear hw6
          have H6 : Hid _ := h6
          clear h6
          go_loopg [15] cN (fun gg n wz => ∃ I : Nat, I ≤ cN ∧ gg = cN - I ∧ n = .int .i64 (I : Nat) ∧ (rowV wz w4.heap.size 10 (fun j => .bool (had c v I j)) ∧ w4.heap.size < wz.heap.size) ∧ rowV wz (w1.heap.size + 1) 10 (fun j => .bool (had c s (C + 1) j)) ∧ Shp w wz w1.heap.size c k r)
          case atStart => exact ⟨0, by omega, rfl, rfl, H6.out⟩
          case round =>
            obtain ⟨I, hI, rfl, rfl, hd, hr, hs⟩ := hrel
            have HD : Hid (rowV wr w4.heap.size 10 (fun j => .bool (had c v I j)) ∧ w4.heap.size < wr.heap.size) := hd
            have HR : Hid (rowV wr (w1.heap.size + 1) 10 (fun j => .bool (had c s (C + 1) j))) := hr
            have HS : Hid (Shp w wr w1.heap.size c k r) := hs
            obtain ⟨p0, p1, p2⟩ := hs.1
            clear hd hr hs H6
            by_cases hIn : I < cN
            · have hIc : (I : Int) < c := by rw [EC.out]; omega
              have hO := HO2.out I hIc
              obtain ⟨y, hy⟩ := Int.eq_ofNat_of_zero_le (Int.emod_nonneg ((v : Int) + (I : Int)) (show c ≠ 0 by omega))
              have hyc : (y : Int) < c := by rw [← hy]; exact Int.emod_lt_of_pos _ (by omega)
              rw [HI2.out I hIc, hy] at hO
              have y10 : y < 10 := by omega
              have HY : Hid ((y : Int) = ((v : Int) + (I : Nat)) % c) := hy.symm
              clear hy
              unfold geoV at hO
              go_wp2_with fail
              refine (hO _).mono ?_
              rintro e w7 ⟨rfl, b⟩
              have HD7 : Hid (rowV w7 w4.heap.size 10 (fun j => .bool (had c v I j)) ∧ w4.heap.size < w7.heap.size) := ⟨HD.out.1.below b HD.out.2, Nat.lt_of_lt_of_le HD.out.2 b.size⟩
              have HR7 : Hid (rowV w7 (w1.heap.size + 1) 10 (fun j => .bool (had c s (C + 1) j))) := HR.out.below b (Nat.lt_trans HB.out.1 HD.out.2)
              have HS7 : Hid (Shp w w7 w1.heap.size c k r) := Shp.kept HS.out b
              clear b p0 p1 p2 HS HR HD hO
              obtain ⟨p0, p1, p2⟩ := HS7.out.1
              obtain ⟨h1, h1f⟩ := HD7.out.1 y y10
              dsimp only at h1
              rw [had_new c1 c2 v1 v2 hIc HY.out] at h1
              go_wp2
              go_roundg (cN - (I + 1))
              case measure => omega
              case rel =>
                refine ⟨I + 1, by omega, rfl, by go_num, ⟨(HD7.out.1.set y (.bool true)).mono (fun j hj => had_next c1 c2 v1 v2 hIc HY.out j hj), by rw [World.size_setCell]; exact HD7.out.2⟩, rowV.at_ HR7.out (Nat.ne_of_lt HB.out.1) y _, Shp.at_ HS7.out (by have := HB.out.1; omega) HB.out.2 y _⟩
            · have hIe : I = cN := by omega
              have hIc : ¬ (I : Int) < c := by rw [EC.out]; omega
              clear hIe
              go_wp2
              go_roundg (cN - (C + 1))
              case measure => omega
              case rel => exact ⟨C + 1, by omega, rfl, by go_num, ⟨HR.out, Nat.lt_trans HB.out.1 HD.out.2⟩, HS.out⟩
        · obtain ⟨_, g2, g3⟩ := f3 hCP hCQ
          have b4 : ((C : Int) == Q) = false := by rw [beq_eq_false_iff_ne]; exact hCQ
          have b1 : ((v : Int) == c - 2) = false := by rw [beq_eq_false_iff_ne]; omega
          have b3 : ((v : Int) == c - 1) = false := by rw [beq_eq_false_iff_ne]; omega
          have hL := fun W => Column_any c k r p v W
          rw [g3] at hL
          unfold geoV at hL
          clear f1 f2 f3 hCP hCQ g3
          go_wp2_with fail
          refine (hO _).mono ?_
          rintro e w4 ⟨rfl, b⟩
          have HR4 : Hid (rowV w4 (w1.heap.size + 1) 10 (fun j => .bool (had c s C j)) ∧ w1.heap.size + 1 < w4.heap.size) := ⟨HR.out.1.below b HR.out.2, Nat.lt_of_lt_of_le HR.out.2 b.size⟩
          have HS4 : Hid (Shp w w4 w1.heap.size c k r) := Shp.kept HS.out b
          clear b p0 p1 p2 HS HR hO
          obtain ⟨p0, p1, p2⟩ := HS4.out.1
          obtain ⟨h1, h1f⟩ := HR4.out.1 v v10
          dsimp only at h1
          rw [had_new c1 c2 HS0.out.1 HS0.out.2 hCc HEV.out] at h1
          go_wp2_with fail
          refine (hL _).mono ?_
          rintro e w5 ⟨rfl, b⟩
          have HR5 : Hid (rowV w5 (w1.heap.size + 1) 10 (fun j => .bool (had c s C j)) ∧ w1.heap.size + 1 < w5.heap.size) := ⟨HR4.out.1.below b HR4.out.2, Nat.lt_of_lt_of_le HR4.out.2 b.size⟩
          have HS5 : Hid (Shp w w5 w1.heap.size c k r) := Shp.kept HS4.out b
          clear b p0 p1 p2 h1 h1f HS4 HR4 hL
          obtain ⟨p0, p1, p2⟩ := HS5.out.1
          obtain ⟨h1, h1f⟩ := HR5.out.1 v v10
          dsimp only at h1
          rw [had_new c1 c2 HS0.out.1 HS0.out.2 hCc HEV.out] at h1
          go_wp2
          obtain ⟨w6, hw6⟩ : ∃ w6, ((w5.setCell ⟨w1.heap.size + 1, v, none⟩ (.bool true)).alloc (.cells #[.bool false, .bool false, .bool false, .bool false, .bool false, .bool false, .bool false, .bool false, .bool false, .bool false] 40)) = w6 := ⟨_, rfl⟩
          have h6 : (rowV w6 w5.heap.size 10 (fun j => .bool (had c v 0 j)) ∧ w5.heap.size < w6.heap.size) ∧ rowV w6 (w1.heap.size + 1) 10 (fun j => .bool (had c s (C + 1) j)) ∧ Shp w w6 w1.heap.size c k r := by
            rw [← hw6]
            have k1 := row_new (w5.setCell ⟨w1.heap.size + 1, v, none⟩ (.bool true)) 40 (fun j => .bool (had c v 0 j)) (fun j _ => by rw [had_zero c v (by omega) j])
            rw [World.size_setCell] at k1
            have k2 : rowV (w5.setCell ⟨w1.heap.size + 1, v, none⟩ (.bool true)) (w1.heap.size + 1) 10 (fun j => .bool (had c s (C + 1) j)) := (HR5.out.1.set v (.bool true)).mono (fun j hj => had_next c1 c2 HS0.out.1 HS0.out.2 hCc HEV.out j hj)
            have k3 := Shp.at_ HS5.out (g := w1.heap.size + 1) (by omega) (Nat.le_trans HWW.out (Nat.le_succ _)) v (.bool true)
            refine ⟨⟨k1, by simp⟩, k2.below ((Below.refl _ _).alloc (Nat.le_refl _) _) (by rw [World.size_setCell]; exact HR5.out.2), k3.1.below ((Below.refl _ _).alloc (Nat.le_refl _) _) k3.1.lt, k3.2.alloc k3.2.size _⟩
          have HB : Hid (w1.heap.size + 1 < w5.heap.size ∧ w.heap.size ≤ w5.heap.size) := ⟨HR5.out.2, HS5.out.2.size⟩
          clear p0 p1 p2 h1 h1f HS5 HR5 b1 b2 b3 b4
          try rw [hw6]
          clear hw6
          have H6 : Hid _ := h6
          clear h6
          go_loopg [15] cN (fun gg n wz => ∃ I : Nat, I ≤ cN ∧ gg = cN - I ∧ n = .int .i64 (I : Nat) ∧ (rowV wz w5.heap.size 10 (fun j => .bool (had c v I j)) ∧ w5.heap.size < wz.heap.size) ∧ rowV wz (w1.heap.size + 1) 10 (fun j => .bool (had c s (C + 1) j)) ∧ Shp w wz w1.heap.size c k r)
          case atStart => exact ⟨0, by omega, rfl, rfl, H6.out⟩
          case round =>
            obtain ⟨I, hI, rfl, rfl, hd, hr, hs⟩ := hrel
            have HD : Hid (rowV wr w5.heap.size 10 (fun j => .bool (had c v I j)) ∧ w5.heap.size < wr.heap.size) := hd
            have HR : Hid (rowV wr (w1.heap.size + 1) 10 (fun j => .bool (had c s (C + 1) j))) := hr
            have HS : Hid (Shp w wr w1.heap.size c k r) := hs
            obtain ⟨p0, p1, p2⟩ := hs.1
            clear hd hr hs H6
            by_cases hIn : I < cN
            · have hIc : (I : Int) < c := by rw [EC.out]; omega
              have hO := HO2.out I hIc
              obtain ⟨y, hy⟩ := Int.eq_ofNat_of_zero_le (Int.emod_nonneg ((v : Int) + (I : Int)) (show c ≠ 0 by omega))
              have hyc : (y : Int) < c := by rw [← hy]; exact Int.emod_lt_of_pos _ (by omega)
              rw [HI2.out I hIc, hy] at hO
              have y10 : y < 10 := by omega
              have HY : Hid ((y : Int) = ((v : Int) + (I : Nat)) % c) := hy.symm
              clear hy
              unfold geoV at hO
              go_wp2_with fail
              refine (hO _).mono ?_
              rintro e w7 ⟨rfl, b⟩
              have HD7 : Hid (rowV w7 w5.heap.size 10 (fun j => .bool (had c v I j)) ∧ w5.heap.size < w7.heap.size) := ⟨HD.out.1.below b HD.out.2, Nat.lt_of_lt_of_le HD.out.2 b.size⟩
              have HR7 : Hid (rowV w7 (w1.heap.size + 1) 10 (fun j => .bool (had c s (C + 1) j))) := HR.out.below b (Nat.lt_trans HB.out.1 HD.out.2)
              have HS7 : Hid (Shp w w7 w1.heap.size c k r) := Shp.kept HS.out b
              clear b p0 p1 p2 HS HR HD hO
              obtain ⟨p0, p1, p2⟩ := HS7.out.1
              obtain ⟨h1, h1f⟩ := HD7.out.1 y y10
              dsimp only at h1
              rw [had_new c1 c2 v1 v2 hIc HY.out] at h1
              go_wp2
              go_roundg (cN - (I + 1))
              case measure => omega
              case rel =>
                refine ⟨I + 1, by omega, rfl, by go_num, ⟨(HD7.out.1.set y (.bool true)).mono (fun j hj => had_next c1 c2 v1 v2 hIc HY.out j hj), by rw [World.size_setCell]; exact HD7.out.2⟩, rowV.at_ HR7.out (Nat.ne_of_lt HB.out.1) y _, Shp.at_ HS7.out (by have := HB.out.1; omega) HB.out.2 y _⟩
            · have hIe : I = cN := by omega
              have hIc : ¬ (I : Int) < c := by rw [EC.out]; omega
              clear hIe
              go_wp2
              go_roundg (cN - (C + 1))
              case measure => omega
              case rel => exact ⟨C + 1, by omega, rfl, by go_num, ⟨HR.out, Nat.lt_trans HB.out.1 HD.out.2⟩, HS.out⟩
    · have hCc : ¬ (C : Int) < c := by rw [EC.out]; omega
      go_wp2_with fail
      refine (shown7_any _).mono ?_
      rintro e w9 ⟨rfl, b⟩
      go_wp2
      go_ret
      exact ⟨rfl, below2 HS.out.2 b⟩
theorem walk (a : Int) (wa : (Lit.int .u8 a).wf = true) (b : Int) (wb : (Lit.int .u8 b).wf = true) (x : Int) (wx : (Lit.int .u8 x).wf = true) (w : World) :
    Calls Try.prog 5 #[.int .u8 a, .int .u8 b, .int .u8 x] w fun e w' => e = .returned (.bool true) ∧ Below w.heap.size w w' :=
  walk_int a b x (bounds_u8 wa) (bounds_u8 wb) (bounds_u8 wx) w

theorem own : ownKnob Try.prog.godebug = none := by kernel_rfl
set_option linter.unusedVariables false in
set_option maxRecDepth 100000 in
theorem lifted (os : Os) (started : os.Started) (H : Type) (enc : TypeId × Value → H) :
    ReturnsInHanded {} Try.checked os 5 .any (Rows.layoutRolesSpec.pre6 enc Try.prog Try.f5 Rows.layoutRolesRow.domain false) (Rows.layoutRolesSpec.post enc Try.prog Try.f5 false true false false) := by
  refine returnsInHanded_of_change (C := Try.checked) own started (by kernel_rfl) Try.func5
    (ChangeSpec.witness6 (enc := enc) (C := Try.checked) false ⟨#[], #[.int .u8 0, .int .u8 0, .int .u8 0], []⟩ 8 (by kernel_rfl) (by kernel_rfl) (by kernel_rfl) (by kernel_rfl)) ?_
  intro W base args ds gs before hval0 hW hcnd _
  have hval : ∀ (j : Nat) t v, Try.f5.params[j]? = some t → args[j]? = some v → Value.okWide Try.prog W .any base t v := hval0
  have hW' := hW
  obtain ⟨p, q, hA0, hV, rfl, hfz, hnd⟩ := hW
  have hA : DataW.TrodAll enc Try.prog W 0 (fun _ => true) true Try.f5.params.toList args.toList ds p := hA0
  rw [Try.params5] at hA hval
  obtain ⟨v0, vs0, d0, ds0, p0, q0, hargs, rfl, rfl, h0, r0⟩ := trodAll_cons hA
  obtain ⟨v1, vs1, d1, ds1, p1, q1, rfl, rfl, rfl, h1, r1⟩ := trodAll_cons r0
  obtain ⟨v2, vs2, d2, ds2, p2, q2, rfl, rfl, rfl, h2, r2⟩ := trodAll_cons r1
  obtain ⟨rfl, rfl, rfl⟩ := trodAll_nil r2
  obtain rfl : args = #[v0, v1, v2] := by cases args; simp_all
  obtain ⟨rfl, rfl⟩ := trodVars_none hV
  obtain ⟨a0, rfl, rfl, rfl, w0⟩ := open_int Try.underlying5 (hval 0 5 v0 rfl rfl) h0
  obtain ⟨a1, rfl, rfl, rfl, w1⟩ := open_int Try.underlying5 (hval 1 5 v1 rfl rfl) h1
  obtain ⟨a2, rfl, rfl, rfl, w2⟩ := open_int Try.underlying5 (hval 2 5 v2 rfl rfl) h2
  clear hA0 hval0
  simp only [List.append_nil] at hW'
  refine (walk a0 w0 a1 w1 a2 w2 W).mono fun e W' ⟨he, hg⟩ => ?_
  subst he
  exact ⟨_, rfl, _, _, _, [], [], [], hW', trodAll_mk1 (shut_bool Try.underlying4 _), (trodAll_cons_mk (shut_int Try.underlying5 w0) (trodAll_cons_mk (shut_int Try.underlying5 w1) (trodAll_cons_mk (shut_int Try.underlying5 w2) trodAll_mk0))), rfl, hg.frame _, fun h => by cases h⟩
/-- For every input the law returns true, and each argument reads as it did. -/
theorem proved : Rows.LayoutRolesSaid :=
  OpenClaim.holds_of_wide 5 Try.f5 rfl rfl rfl rfl rfl rfl rfl ⟨rfl, rfl, rfl, rfl, rfl⟩ rfl rfl rfl rfl rfl (by kernel_rfl) Try.func5 (by kernel_rfl)
    (of_decide_eq_true (by kernel_rfl)) (by unfold Func.isWrapper; first | (rw [if_pos (by decide +kernel)]; kernel_rfl) | (rw [if_neg (by decide +kernel)]; exact ⟨rfl, rfl⟩))
    (fun os started H enc _ => lifted os started H enc)
end Go.Proofs.Ytfnafoahcllakaa.layoutRoles
