/- For all six bytes the law SyndromeTwo returns true: of two data columns no two rows have the same P and Q, but the same ones. No condition. -/
import Derived.Test.YtekpamadimachaaSyn05
import Derived.Test.YtekpamadimachaaSynTwo
import Derived.Deep.AppendLies
import Derived.ProofKit
import Derived.OpenShut
import Derived.ShutString
import Derived.ChangeOld
import Derived.Below
namespace Go.Proofs.Ytekpamadimachaa.syndromeTwo
open Go.ChangeShapes Go.WideShapes Go.ChangeAt Go.RowKit
open Go.ChangeMaps (open_string shut_string)

/-- one of two rows has grown by a text: the other one is as it was, and lies elsewhere -/
theorem grow_one {w wr W1 w3 : World} {b t gl gm j n cl cm g c : Nat} {fl fm : Nat → ByteArray} {s : ByteArray}
    (om : wr.ownsRow b t 1 (.slice (some ⟨gm, 0, none⟩) n cm) n (textVals n fm)) (hne : gm ≠ gl) (hB : Below b w wr) (hW : Below wr.heap.size wr W1) (hb : b ≤ gl)
    (own : w3.ownsRow b t 1 (.slice (some ⟨g, 0, none⟩) (j + 1) c) (j + 1) (textVals j fl ++ [.string s])) (grow : W1.grownBy w3 (Value.slice (some ⟨gl, 0, none⟩) j cl).ownBlock)
    (lies : (Value.slice (some ⟨gl, 0, none⟩) j cl).ownBlock = some g ∨ g = W1.heap.size) (hs : fl j = s) (hbw : b ≤ wr.heap.size := by omega) :
    w3.ownsRow b t 1 (.slice (some ⟨g, 0, none⟩) (j + 1) c) (j + 1) (textVals (j + 1) fl) ∧ w3.ownsRow b t 1 (.slice (some ⟨gm, 0, none⟩) n cm) n (textVals n fm) ∧ gm ≠ g ∧ Below b w w3 := by
  have hgm : gm < wr.heap.size := by
    rcases om.2 with ⟨e, _⟩ | ⟨g, c, _, e, _, h, _⟩
    · cases e
    · cases e; exact (Array.getElem?_eq_some_iff.1 h).1
  refine ⟨by rw [← textVals_snoc, hs]; exact own, (ownsRow_below om hW).kept grow (.inr fun e => hne (by simpa [Value.ownBlock] using e)), ?_, ?_⟩
  · rcases lies with h | h
    · have : gl = g := by simpa [Value.ownBlock] using h
      omega
    · have := hW.size; omega
  · exact (hB.trans (hW.mono hbw)).grown grow (by have := hW.size; omega) fun k hk => by
      have : gl = k := by simpa [Value.ownBlock] using hk
      omega
theorem owns_low {w : World} {b t g n c : Nat} {l : List Value} (h : w.ownsRow b t 1 (.slice (some ⟨g, 0, none⟩) n c) n l) : b ≤ g := by
  rcases h.2 with ⟨e, _⟩ | ⟨_, _, _, e, h, _⟩
  · cases e
  · cases e; exact h
theorem cell_one_at (W : World) (g : Nat) (hg : W.heap.size = g) (v : Value) (t : TypeId) : ∀ (j : Nat) (u : Value), [v][j]? = some u → (W.alloc (.cells #[v] t)).cell? ((⟨g, 0, none⟩ : Addr).add j) = some u := by
  subst hg; exact cell_one_new _ _ _
theorem texts_apart {a b : ByteArray} (h : ¬ a = b) : (a.toList == b.toList) = false := by
  rw [beq_eq_false_iff_ne, ByteArray.toList_eq, ByteArray.toList_eq]
  intro e
  exact h (by cases a; cases b; simp only [ByteArray.mk.injEq]; exact Array.toList_inj.1 e)
theorem conv_one (c : UInt8) (W : World) : (convert 33 9 (.slice (some ⟨W.heap.size, 0, none⟩) 1 1)).run Try.prog (W.alloc (.cells #[.int .u8 (c.toNat : Int)] 5)) = .ok (.string (Gfm.oneB c)) (W.alloc (.cells #[.int .u8 (c.toNat : Int)] 5)) := by
  refine run_convert_bytes_back _ _ _ 5 _ 1 [c] Try.underlying33 Try.underlying5 Try.underlying9 fun j hj => ?_
  have hj0 : j = 0 := by simpa using hj
  subst hj0
  exact cell_one_new _ _ _ 0 _ rfl

set_option maxRecDepth 100000 in
set_option maxHeartbeats 8000000 in
theorem core_apart (A B C D : UInt8) (X Y i k : Nat) (hX : X < 8) (hY : Y < 8) (hXY : X ≠ Y) (hi : i < 256) (hk : k < 256) (h1 : i % 8 = X) (h2 : k % 8 = Y) (w : World) :
    Calls Try.prog 8 #[.int .u8 A.toNat, .int .u8 B.toNat, .int .u8 C.toNat, .int .u8 D.toNat, .int .u8 i, .int .u8 k] w fun e w' => e = .returned (.bool true) ∧ Below w.heap.size w w' := by
  have hA := A.toNat_lt
  have hB := B.toNat_lt
  have hC := C.toNat_lt
  have hD := D.toNat_lt
  have cvA := conv_one A
  have cvB := conv_one B
  have cvC := conv_one C
  have cvD := conv_one D
  have HXY : Hid (X ≠ Y) := hXY
  have m1 : (i : Int).tmod 8 = (X : Int) := by rw [Int.tmod_eq_emod_of_nonneg (by omega)]; omega
  have m2 : (k : Int).tmod 8 = (Y : Int) := by rw [Int.tmod_eq_emod_of_nonneg (by omega)]; omega
  have m3 : ((X : Int) == (Y : Int)) = false := by rw [beq_eq_false_iff_ne]; omega
  clear h1 h2
  obtain ⟨i0, hi, hz0, hz1, hz2⟩ := info_parts (show (Try.prog.info? 9).map (fun i => (i.zero, i.size, i.bytes)) = some (some (.string ByteArray.empty), 1, 16) from info_str)
  go_enter Try.func8, Try.ntmps8
  go_wp2
  go_loopg [15, 16, 17, 18, 19] 8 (fun gg ul um n _ _ wr => ∃ (j gl gm cl cm : Nat), j ≤ 8 ∧ gg = 8 - j ∧ ul = .slice (some ⟨gl, 0, none⟩) j cl ∧ um = .slice (some ⟨gm, 0, none⟩) j cm ∧ n = .int .i64 j ∧ gl ≠ gm ∧
    wr.ownsRow w.heap.size 9 1 (.slice (some ⟨gl, 0, none⟩) j cl) j (textVals j (Gfm.pairF X Y A B)) ∧ wr.ownsRow w.heap.size 9 1 (.slice (some ⟨gm, 0, none⟩) j cm) j (textVals j (Gfm.pairF X Y C D)) ∧ Below w.heap.size w wr)
  case atStart =>
    exact ⟨0, w.heap.size, w.heap.size + 1, 0, 0, by omega, rfl, rfl, rfl, rfl, by omega, (World.ownsRow_made w #[] 0 (Nat.le_refl _) (by decide) rfl).alloc _, by have h := World.ownsRow_made (base := w.heap.size) (e := 9) (size := 1) (w.alloc (.cells #[] 9)) #[] 0 (by simp) (by decide) rfl; rw [World.size_alloc] at h; exact h, ((Below.refl _ w).alloc (Nat.le_refl _) _).alloc (by simp) _⟩
  case round =>
    obtain ⟨j, gl, gm, cl, cm, hj, rfl, rfl, rfl, rfl, hne, ol, om, hb⟩ := hrel
    have HGL : Hid (w.heap.size ≤ gl) := owns_low ol
    have HGM : Hid (w.heap.size ≤ gm) := owns_low om
    have OL : Hid (wr.ownsRow w.heap.size 9 1 (.slice (some ⟨gl, 0, none⟩) j cl) j (textVals j (Gfm.pairF X Y A B))) := ol
    have OM : Hid (wr.ownsRow w.heap.size 9 1 (.slice (some ⟨gm, 0, none⟩) j cm) j (textVals j (Gfm.pairF X Y C D))) := om
    have NE : Hid (gl ≠ gm) := hne
    have HB : Hid (Below w.heap.size w wr) := hb
    have hsz := hb.size
    clear ol om hne hb
    by_cases hj8 : j < 8
    · have t1 : True := trivial
      have t2 : True := trivial
      by_cases hjX : j = X
      · have hjY : ¬ j = Y := by omega
        have ex : ((j : Int) == (X : Int)) = true := by rw [beq_iff_eq]; omega
        have ey : ((j : Int) == (Y : Int)) = false := by rw [beq_eq_false_iff_ne]; omega
        have cv1 := conv_one C (wr.alloc (.cells #[.int .u8 (A.toNat : Int)] 5))
        simp only [World.size_alloc] at cv1
        have HS : Hid (Gfm.pairF X Y A B j = Gfm.oneB A) := by show _ = _; unfold Gfm.pairF; simp only [*, if_true, if_false]
        have HT : Hid (Gfm.pairF X Y C D j = Gfm.oneB C) := by show _ = _; unfold Gfm.pairF; simp only [*, if_true, if_false]
        clear hjX hjY
        go_wp2_with (first | (at_builtin; have _t := t1; refine wpList_append_lies _ rfl _ _ 22 rfl w.heap.size 9 i0 (.string ByteArray.empty) 1 16 Try.underlying22 hi hz0 hz1 hz2 rfl (by decide) (.slice (some ⟨gl, 0, none⟩) j cl) j (textVals j (Gfm.pairF X Y A B)) rfl (by first | exact OL.out.alloc _ | exact (OL.out.alloc _).alloc _ | exact ((OL.out.alloc _).alloc _).alloc _) ⟨_, 0, none⟩ 1 1 [.string (Gfm.oneB A)] rfl rfl (cell_one_at _ _ (by simp) _ _) (by simp [Value.oneCell']) (by decide) (by unfold maxLen; omega) (by omega) (by simp; omega) _ rfl ?_; intro g1 c1 w3 own3 grow3 lies3 lt3; (obtain ⟨ol3, om3, ne3, hb3⟩ := grow_one (fl := Gfm.pairF X Y A B) OM.out (Ne.symm NE.out) HB.out (by first | exact (Below.refl _ _).alloc (Nat.le_refl _) _ | exact ((Below.refl _ _).alloc (Nat.le_refl _) _).alloc (by simp) _ | exact (((Below.refl _ _).alloc (Nat.le_refl _) _).alloc (by simp) _).alloc (by simp; omega) _) HGL.out own3 grow3 lies3 HS.out); (have OL3 : Hid (w3.ownsRow w.heap.size 9 1 (.slice (some ⟨g1, 0, none⟩) (j + 1) c1) (j + 1) (textVals (j + 1) (Gfm.pairF X Y A B))) := ol3); (have OM3 : Hid (w3.ownsRow w.heap.size 9 1 (.slice (some ⟨gm, 0, none⟩) j cm) j (textVals j (Gfm.pairF X Y C D))) := om3); (have NE3 : Hid (gm ≠ g1) := ne3); (have HB3 : Hid (Below w.heap.size w w3) := hb3); (have hsz3 := hb3.size); clear own3 grow3 lies3 lt3 ol3 om3 ne3 hb3; clear t1) | (at_builtin; have _t := t2; refine wpList_append_lies _ rfl _ _ 22 rfl w.heap.size 9 i0 (.string ByteArray.empty) 1 16 Try.underlying22 hi hz0 hz1 hz2 rfl (by decide) (.slice (some ⟨gm, 0, none⟩) j cm) j (textVals j (Gfm.pairF X Y C D)) rfl (by first | exact OM3.out.alloc _ | exact (OM3.out.alloc _).alloc _ | exact ((OM3.out.alloc _).alloc _).alloc _) ⟨_, 0, none⟩ 1 1 [.string (Gfm.oneB C)] rfl rfl (cell_one_at _ _ (by simp) _ _) (by simp [Value.oneCell']) (by decide) (by unfold maxLen; omega) (by omega) (by simp; omega) _ rfl ?_; intro g2 c2 w5 own5 grow5 lies5 lt5; (obtain ⟨om5, ol5, ne5, hb5⟩ := grow_one (fl := Gfm.pairF X Y C D) OL3.out (Ne.symm NE3.out) HB3.out (by first | exact (Below.refl _ _).alloc (Nat.le_refl _) _ | exact ((Below.refl _ _).alloc (Nat.le_refl _) _).alloc (by simp) _ | exact (((Below.refl _ _).alloc (Nat.le_refl _) _).alloc (by simp) _).alloc (by simp; omega) _) HGM.out own5 grow5 lies5 HT.out); (have OL5 : Hid (w5.ownsRow w.heap.size 9 1 (.slice (some ⟨g1, 0, none⟩) (j + 1) c1) (j + 1) (textVals (j + 1) (Gfm.pairF X Y A B))) := ol5); (have OM5 : Hid (w5.ownsRow w.heap.size 9 1 (.slice (some ⟨g2, 0, none⟩) (j + 1) c2) (j + 1) (textVals (j + 1) (Gfm.pairF X Y C D))) := om5); (have NE5 : Hid (g1 ≠ g2) := ne5); (have HB5 : Hid (Below w.heap.size w w5) := hb5); clear own5 grow5 lies5 lt5 ol5 om5 ne5 hb5; clear t2))
        go_roundg (8 - (j + 1))
        case measure => omega
        case rel => exact ⟨j + 1, g1, g2, c1, c2, by omega, rfl, rfl, rfl, by go_num, NE5.out, OL5.out, OM5.out, HB5.out⟩
      · by_cases hjY : j = Y
        · have ex : ((j : Int) == (X : Int)) = false := by rw [beq_eq_false_iff_ne]; omega
          have ey : ((j : Int) == (Y : Int)) = true := by rw [beq_iff_eq]; omega
          have cv1 := conv_one D (wr.alloc (.cells #[.int .u8 (B.toNat : Int)] 5))
          simp only [World.size_alloc] at cv1
          have HS : Hid (Gfm.pairF X Y A B j = Gfm.oneB B) := by show _ = _; unfold Gfm.pairF; simp only [*, if_true]
          have HT : Hid (Gfm.pairF X Y C D j = Gfm.oneB D) := by show _ = _; unfold Gfm.pairF; simp only [*, if_true]
          clear hjX hjY
          go_wp2_with (first | (at_builtin; have _t := t1; refine wpList_append_lies _ rfl _ _ 22 rfl w.heap.size 9 i0 (.string ByteArray.empty) 1 16 Try.underlying22 hi hz0 hz1 hz2 rfl (by decide) (.slice (some ⟨gl, 0, none⟩) j cl) j (textVals j (Gfm.pairF X Y A B)) rfl (by first | exact OL.out.alloc _ | exact (OL.out.alloc _).alloc _ | exact ((OL.out.alloc _).alloc _).alloc _) ⟨_, 0, none⟩ 1 1 [.string (Gfm.oneB B)] rfl rfl (cell_one_at _ _ (by simp) _ _) (by simp [Value.oneCell']) (by decide) (by unfold maxLen; omega) (by omega) (by simp; omega) _ rfl ?_; intro g1 c1 w3 own3 grow3 lies3 lt3; (obtain ⟨ol3, om3, ne3, hb3⟩ := grow_one (fl := Gfm.pairF X Y A B) OM.out (Ne.symm NE.out) HB.out (by first | exact (Below.refl _ _).alloc (Nat.le_refl _) _ | exact ((Below.refl _ _).alloc (Nat.le_refl _) _).alloc (by simp) _ | exact (((Below.refl _ _).alloc (Nat.le_refl _) _).alloc (by simp) _).alloc (by simp; omega) _) HGL.out own3 grow3 lies3 HS.out); (have OL3 : Hid (w3.ownsRow w.heap.size 9 1 (.slice (some ⟨g1, 0, none⟩) (j + 1) c1) (j + 1) (textVals (j + 1) (Gfm.pairF X Y A B))) := ol3); (have OM3 : Hid (w3.ownsRow w.heap.size 9 1 (.slice (some ⟨gm, 0, none⟩) j cm) j (textVals j (Gfm.pairF X Y C D))) := om3); (have NE3 : Hid (gm ≠ g1) := ne3); (have HB3 : Hid (Below w.heap.size w w3) := hb3); (have hsz3 := hb3.size); clear own3 grow3 lies3 lt3 ol3 om3 ne3 hb3; clear t1) | (at_builtin; have _t := t2; refine wpList_append_lies _ rfl _ _ 22 rfl w.heap.size 9 i0 (.string ByteArray.empty) 1 16 Try.underlying22 hi hz0 hz1 hz2 rfl (by decide) (.slice (some ⟨gm, 0, none⟩) j cm) j (textVals j (Gfm.pairF X Y C D)) rfl (by first | exact OM3.out.alloc _ | exact (OM3.out.alloc _).alloc _ | exact ((OM3.out.alloc _).alloc _).alloc _) ⟨_, 0, none⟩ 1 1 [.string (Gfm.oneB D)] rfl rfl (cell_one_at _ _ (by simp) _ _) (by simp [Value.oneCell']) (by decide) (by unfold maxLen; omega) (by omega) (by simp; omega) _ rfl ?_; intro g2 c2 w5 own5 grow5 lies5 lt5; (obtain ⟨om5, ol5, ne5, hb5⟩ := grow_one (fl := Gfm.pairF X Y C D) OL3.out (Ne.symm NE3.out) HB3.out (by first | exact (Below.refl _ _).alloc (Nat.le_refl _) _ | exact ((Below.refl _ _).alloc (Nat.le_refl _) _).alloc (by simp) _ | exact (((Below.refl _ _).alloc (Nat.le_refl _) _).alloc (by simp) _).alloc (by simp; omega) _) HGM.out own5 grow5 lies5 HT.out); (have OL5 : Hid (w5.ownsRow w.heap.size 9 1 (.slice (some ⟨g1, 0, none⟩) (j + 1) c1) (j + 1) (textVals (j + 1) (Gfm.pairF X Y A B))) := ol5); (have OM5 : Hid (w5.ownsRow w.heap.size 9 1 (.slice (some ⟨g2, 0, none⟩) (j + 1) c2) (j + 1) (textVals (j + 1) (Gfm.pairF X Y C D))) := om5); (have NE5 : Hid (g1 ≠ g2) := ne5); (have HB5 : Hid (Below w.heap.size w w5) := hb5); clear own5 grow5 lies5 lt5 ol5 om5 ne5 hb5; clear t2))
          go_roundg (8 - (j + 1))
          case measure => omega
          case rel => exact ⟨j + 1, g1, g2, c1, c2, by omega, rfl, rfl, rfl, by go_num, NE5.out, OL5.out, OM5.out, HB5.out⟩
        · have ex : ((j : Int) == (X : Int)) = false := by rw [beq_eq_false_iff_ne]; omega
          have ey : ((j : Int) == (Y : Int)) = false := by rw [beq_eq_false_iff_ne]; omega
          have HS : Hid (Gfm.pairF X Y A B j = Gfm.oneB 0) := by show _ = _; unfold Gfm.pairF; simp only [*, if_false]
          have HT : Hid (Gfm.pairF X Y C D j = Gfm.oneB 0) := by show _ = _; unfold Gfm.pairF; simp only [*, if_false]
          clear hjX hjY
          go_wp2_with (first | (at_builtin; have _t := t1; refine wpList_append_lies _ rfl _ _ 22 rfl w.heap.size 9 i0 (.string ByteArray.empty) 1 16 Try.underlying22 hi hz0 hz1 hz2 rfl (by decide) (.slice (some ⟨gl, 0, none⟩) j cl) j (textVals j (Gfm.pairF X Y A B)) rfl (by first | exact OL.out.alloc _ | exact (OL.out.alloc _).alloc _ | exact ((OL.out.alloc _).alloc _).alloc _) ⟨_, 0, none⟩ 1 1 [.string (Gfm.oneB 0)] rfl rfl (cell_one_at _ _ (by simp) _ _) (by simp [Value.oneCell']) (by decide) (by unfold maxLen; omega) (by omega) (by simp; omega) _ rfl ?_; intro g1 c1 w3 own3 grow3 lies3 lt3; (obtain ⟨ol3, om3, ne3, hb3⟩ := grow_one (fl := Gfm.pairF X Y A B) OM.out (Ne.symm NE.out) HB.out (by first | exact (Below.refl _ _).alloc (Nat.le_refl _) _ | exact ((Below.refl _ _).alloc (Nat.le_refl _) _).alloc (by simp) _ | exact (((Below.refl _ _).alloc (Nat.le_refl _) _).alloc (by simp) _).alloc (by simp; omega) _) HGL.out own3 grow3 lies3 HS.out); (have OL3 : Hid (w3.ownsRow w.heap.size 9 1 (.slice (some ⟨g1, 0, none⟩) (j + 1) c1) (j + 1) (textVals (j + 1) (Gfm.pairF X Y A B))) := ol3); (have OM3 : Hid (w3.ownsRow w.heap.size 9 1 (.slice (some ⟨gm, 0, none⟩) j cm) j (textVals j (Gfm.pairF X Y C D))) := om3); (have NE3 : Hid (gm ≠ g1) := ne3); (have HB3 : Hid (Below w.heap.size w w3) := hb3); (have hsz3 := hb3.size); clear own3 grow3 lies3 lt3 ol3 om3 ne3 hb3; clear t1) | (at_builtin; have _t := t2; refine wpList_append_lies _ rfl _ _ 22 rfl w.heap.size 9 i0 (.string ByteArray.empty) 1 16 Try.underlying22 hi hz0 hz1 hz2 rfl (by decide) (.slice (some ⟨gm, 0, none⟩) j cm) j (textVals j (Gfm.pairF X Y C D)) rfl (by first | exact OM3.out.alloc _ | exact (OM3.out.alloc _).alloc _ | exact ((OM3.out.alloc _).alloc _).alloc _) ⟨_, 0, none⟩ 1 1 [.string (Gfm.oneB 0)] rfl rfl (cell_one_at _ _ (by simp) _ _) (by simp [Value.oneCell']) (by decide) (by unfold maxLen; omega) (by omega) (by simp; omega) _ rfl ?_; intro g2 c2 w5 own5 grow5 lies5 lt5; (obtain ⟨om5, ol5, ne5, hb5⟩ := grow_one (fl := Gfm.pairF X Y C D) OL3.out (Ne.symm NE3.out) HB3.out (by first | exact (Below.refl _ _).alloc (Nat.le_refl _) _ | exact ((Below.refl _ _).alloc (Nat.le_refl _) _).alloc (by simp) _ | exact (((Below.refl _ _).alloc (Nat.le_refl _) _).alloc (by simp) _).alloc (by simp; omega) _) HGM.out own5 grow5 lies5 HT.out); (have OL5 : Hid (w5.ownsRow w.heap.size 9 1 (.slice (some ⟨g1, 0, none⟩) (j + 1) c1) (j + 1) (textVals (j + 1) (Gfm.pairF X Y A B))) := ol5); (have OM5 : Hid (w5.ownsRow w.heap.size 9 1 (.slice (some ⟨g2, 0, none⟩) (j + 1) c2) (j + 1) (textVals (j + 1) (Gfm.pairF X Y C D))) := om5); (have NE5 : Hid (g1 ≠ g2) := ne5); (have HB5 : Hid (Below w.heap.size w w5) := hb5); clear own5 grow5 lies5 lt5 ol5 om5 ne5 hb5; clear t2))
          go_roundg (8 - (j + 1))
          case measure => omega
          case rel => exact ⟨j + 1, g1, g2, c1, c2, by omega, rfl, rfl, rfl, by go_num, NE5.out, OL5.out, OM5.out, HB5.out⟩
    · have hjj : j = 8 := by omega
      subst hjj
      obtain ⟨a1, k1, e1, r1, _, _⟩ := RowS.of_owns OL.out
      obtain ⟨a2, k2, e2, r2, _, _⟩ := RowS.of_owns OM.out
      cases e1
      cases e2
      have R1 : Hid (RowS wr (some ⟨gl, 0, none⟩) 8 (Gfm.pairF X Y A B)) := r1
      have R2 : Hid (RowS wr (some ⟨gm, 0, none⟩) 8 (Gfm.pairF X Y C D)) := r2
      clear r1 r2
      have hP1 := fun W (h : Below wr.heap.size wr W) => P_any 8 (Gfm.pairF X Y A B) (by decide) (Gfm.pairF_le X Y A B 8) (some ⟨gl, 0, none⟩) cl W (R1.out.below h)
      have hP2 := fun W (h : Below wr.heap.size wr W) => P_any 8 (Gfm.pairF X Y C D) (by decide) (Gfm.pairF_le X Y C D 8) (some ⟨gm, 0, none⟩) cm W (R2.out.below h)
      have hQ1 := fun W (h : Below wr.heap.size wr W) => Q_any 8 (Gfm.pairF X Y A B) (by decide) (Gfm.pairF_le X Y A B 8) (some ⟨gl, 0, none⟩) cl W (R1.out.below h)
      have hQ2 := fun W (h : Below wr.heap.size wr W) => Q_any 8 (Gfm.pairF X Y C D) (by decide) (Gfm.pairF_le X Y C D 8) (some ⟨gm, 0, none⟩) cm W (R2.out.below h)
      have TOLD : Hid (Gfm.addF 8 (Gfm.pairF X Y A B) = Gfm.addF 8 (Gfm.pairF X Y C D) → Gfm.addF 8 (Gfm.qT (Gfm.pairF X Y A B)) = Gfm.addF 8 (Gfm.qT (Gfm.pairF X Y C D)) → A = C ∧ B = D) := Gfm.pair_told hXY hX hY
      have SAME : Hid (A = C → B = D → Gfm.addF 8 (Gfm.pairF X Y A B) = Gfm.addF 8 (Gfm.pairF X Y C D) ∧ Gfm.addF 8 (Gfm.qT (Gfm.pairF X Y A B)) = Gfm.addF 8 (Gfm.qT (Gfm.pairF X Y C D))) := fun h1 h2 => by subst h1; subst h2; exact ⟨rfl, rfl⟩
      obtain ⟨P1, hP1e⟩ : ∃ x, Gfm.addF 8 (Gfm.pairF X Y A B) = x := ⟨_, rfl⟩
      obtain ⟨P2, hP2e⟩ : ∃ x, Gfm.addF 8 (Gfm.pairF X Y C D) = x := ⟨_, rfl⟩
      obtain ⟨Q1, hQ1e⟩ : ∃ x, Gfm.addF 8 (Gfm.qT (Gfm.pairF X Y A B)) = x := ⟨_, rfl⟩
      obtain ⟨Q2, hQ2e⟩ : ∃ x, Gfm.addF 8 (Gfm.qT (Gfm.pairF X Y C D)) = x := ⟨_, rfl⟩
      rw [hP1e] at hP1 TOLD SAME
      rw [hP2e] at hP2 TOLD SAME
      rw [hQ1e] at hQ1 TOLD SAME
      rw [hQ2e] at hQ2 TOLD SAME
      clear hP1e hP2e hQ1e hQ2e
      by_cases hAC : A = C ∧ B = D
      · obtain ⟨p, q⟩ := SAME.out hAC.1 hAC.2
        subst p
        subst q
        obtain ⟨hA, hB⟩ := hAC
        subst hA
        subst hB
        go_wp2_with fail
        refine (hP1 _ (Below.refl _ _)).mono ?_
        rintro e v1 ⟨rfl, b1⟩
        go_wp2_with fail
        refine (hP2 _ b1).mono ?_
        rintro e v2 ⟨rfl, b2⟩
        have b2 := below2 b1 b2
        go_wp2_with fail
        refine (hQ1 _ b2).mono ?_
        rintro e v3 ⟨rfl, b3⟩
        have b3 := below2 b2 b3
        go_wp2_with fail
        refine (hQ2 _ b3).mono ?_
        rintro e v4 ⟨rfl, b4⟩
        have b4 := below2 b3 b4
        go_wp2_with fail
        refine (shown5_any _).mono ?_
        rintro e v5 ⟨rfl, b5⟩
        have HB5 : Hid (Below w.heap.size w v5) := HB.out.trans ((below2 b4 b5).mono HB.out.size)
        clear b1 b2 b4 b5
        go_wp2
        go_ret
        exact ⟨rfl, HB5.out⟩
      · have hb : ¬ (P1 = P2 ∧ Q1 = Q2) := fun h => hAC (TOLD.out h.1 h.2)
        by_cases hP : P1 = P2
        · have hQ : ¬ Q1 = Q2 := fun h => hb ⟨hP, h⟩
          have hQb : (Q1.toList == Q2.toList) = false := texts_apart hQ
          subst hP
          clear hb
          by_cases hA : A = C
          · have hB : ¬ B = D := fun h => hAC ⟨hA, h⟩
            have hBb : ((B.toNat : Int) == (D.toNat : Int)) = false := by rw [beq_eq_false_iff_ne]; intro h; exact hB (UInt8.toNat_inj.1 (by omega))
            subst hA
            clear hQ hB hAC SAME TOLD
            go_wp2_with fail
            refine (hP1 _ (Below.refl _ _)).mono ?_
            rintro e v1 ⟨rfl, b1⟩
            go_wp2_with fail
            refine (hP2 _ b1).mono ?_
            rintro e v2 ⟨rfl, b2⟩
            have b2 := below2 b1 b2
            go_wp2_with fail
            refine (hQ1 _ b2).mono ?_
            rintro e v3 ⟨rfl, b3⟩
            have b3 := below2 b2 b3
            go_wp2_with fail
            refine (hQ2 _ b3).mono ?_
            rintro e v4 ⟨rfl, b4⟩
            have b4 := below2 b3 b4
            go_wp2_with fail
            refine (shown5_any _).mono ?_
            rintro e v5 ⟨rfl, b5⟩
            have HB5 : Hid (Below w.heap.size w v5) := HB.out.trans ((below2 b4 b5).mono HB.out.size)
            clear b1 b2 b4 b5
            go_wp2
            go_ret
            exact ⟨rfl, HB5.out⟩
          · have hAb : ((A.toNat : Int) == (C.toNat : Int)) = false := by rw [beq_eq_false_iff_ne]; intro h; exact hA (UInt8.toNat_inj.1 (by omega))
            clear hQ hA hAC SAME TOLD
            go_wp2_with fail
            refine (hP1 _ (Below.refl _ _)).mono ?_
            rintro e v1 ⟨rfl, b1⟩
            go_wp2_with fail
            refine (hP2 _ b1).mono ?_
            rintro e v2 ⟨rfl, b2⟩
            have b2 := below2 b1 b2
            go_wp2_with fail
            refine (hQ1 _ b2).mono ?_
            rintro e v3 ⟨rfl, b3⟩
            have b3 := below2 b2 b3
            go_wp2_with fail
            refine (hQ2 _ b3).mono ?_
            rintro e v4 ⟨rfl, b4⟩
            have b4 := below2 b3 b4
            go_wp2_with fail
            refine (shown5_any _).mono ?_
            rintro e v5 ⟨rfl, b5⟩
            have HB5 : Hid (Below w.heap.size w v5) := HB.out.trans ((below2 b4 b5).mono HB.out.size)
            clear b1 b2 b4 b5
            go_wp2
            go_ret
            exact ⟨rfl, HB5.out⟩
        · have hPb : (P1.toList == P2.toList) = false := texts_apart hP
          clear hb
          by_cases hA : A = C
          · have hB : ¬ B = D := fun h => hAC ⟨hA, h⟩
            have hBb : ((B.toNat : Int) == (D.toNat : Int)) = false := by rw [beq_eq_false_iff_ne]; intro h; exact hB (UInt8.toNat_inj.1 (by omega))
            subst hA
            clear hP hB hAC SAME TOLD
            go_wp2_with fail
            refine (hP1 _ (Below.refl _ _)).mono ?_
            rintro e v1 ⟨rfl, b1⟩
            go_wp2_with fail
            refine (hP2 _ b1).mono ?_
            rintro e v2 ⟨rfl, b2⟩
            have b2 := below2 b1 b2
            have b4 := b2
            go_wp2_with fail
            refine (shown5_any _).mono ?_
            rintro e v5 ⟨rfl, b5⟩
            have HB5 : Hid (Below w.heap.size w v5) := HB.out.trans ((below2 b4 b5).mono HB.out.size)
            clear b1 b2 b4 b5
            go_wp2
            go_ret
            exact ⟨rfl, HB5.out⟩
          · have hAb : ((A.toNat : Int) == (C.toNat : Int)) = false := by rw [beq_eq_false_iff_ne]; intro h; exact hA (UInt8.toNat_inj.1 (by omega))
            clear hP hA hAC SAME TOLD
            go_wp2_with fail
            refine (hP1 _ (Below.refl _ _)).mono ?_
            rintro e v1 ⟨rfl, b1⟩
            go_wp2_with fail
            refine (hP2 _ b1).mono ?_
            rintro e v2 ⟨rfl, b2⟩
            have b2 := below2 b1 b2
            have b4 := b2
            go_wp2_with fail
            refine (shown5_any _).mono ?_
            rintro e v5 ⟨rfl, b5⟩
            have HB5 : Hid (Below w.heap.size w v5) := HB.out.trans ((below2 b4 b5).mono HB.out.size)
            clear b1 b2 b4 b5
            go_wp2
            go_ret
            exact ⟨rfl, HB5.out⟩

set_option maxRecDepth 100000 in
set_option maxHeartbeats 8000000 in
theorem core_met (A B C D : UInt8) (X Y i k : Nat) (hX : X < 8) (hY : Y < 8) (hXY : X ≠ Y) (hi : i < 256) (hk : k < 256) (h1 : i % 8 = X) (h2 : k % 8 = X ∧ (X + 1) % 8 = Y) (w : World) :
    Calls Try.prog 8 #[.int .u8 A.toNat, .int .u8 B.toNat, .int .u8 C.toNat, .int .u8 D.toNat, .int .u8 i, .int .u8 k] w fun e w' => e = .returned (.bool true) ∧ Below w.heap.size w w' := by
  have hA := A.toNat_lt
  have hB := B.toNat_lt
  have hC := C.toNat_lt
  have hD := D.toNat_lt
  have cvA := conv_one A
  have cvB := conv_one B
  have cvC := conv_one C
  have cvD := conv_one D
  have HXY : Hid (X ≠ Y) := hXY
  have m1 : (i : Int).tmod 8 = (X : Int) := by rw [Int.tmod_eq_emod_of_nonneg (by omega)]; omega
  have m2 : (k : Int).tmod 8 = (X : Int) := by rw [Int.tmod_eq_emod_of_nonneg (by omega)]; omega
  have m3 : ((X : Int) + 1).tmod 8 = (Y : Int) := by rw [Int.tmod_eq_emod_of_nonneg (by omega)]; omega
  clear h1 h2
  obtain ⟨i0, hi, hz0, hz1, hz2⟩ := info_parts (show (Try.prog.info? 9).map (fun i => (i.zero, i.size, i.bytes)) = some (some (.string ByteArray.empty), 1, 16) from info_str)
  go_enter Try.func8, Try.ntmps8
  go_wp2
  go_loopg [15, 16, 17, 18, 19] 8 (fun gg ul um n _ _ wr => ∃ (j gl gm cl cm : Nat), j ≤ 8 ∧ gg = 8 - j ∧ ul = .slice (some ⟨gl, 0, none⟩) j cl ∧ um = .slice (some ⟨gm, 0, none⟩) j cm ∧ n = .int .i64 j ∧ gl ≠ gm ∧
    wr.ownsRow w.heap.size 9 1 (.slice (some ⟨gl, 0, none⟩) j cl) j (textVals j (Gfm.pairF X Y A B)) ∧ wr.ownsRow w.heap.size 9 1 (.slice (some ⟨gm, 0, none⟩) j cm) j (textVals j (Gfm.pairF X Y C D)) ∧ Below w.heap.size w wr)
  case atStart =>
    exact ⟨0, w.heap.size, w.heap.size + 1, 0, 0, by omega, rfl, rfl, rfl, rfl, by omega, (World.ownsRow_made w #[] 0 (Nat.le_refl _) (by decide) rfl).alloc _, by have h := World.ownsRow_made (base := w.heap.size) (e := 9) (size := 1) (w.alloc (.cells #[] 9)) #[] 0 (by simp) (by decide) rfl; rw [World.size_alloc] at h; exact h, ((Below.refl _ w).alloc (Nat.le_refl _) _).alloc (by simp) _⟩
  case round =>
    obtain ⟨j, gl, gm, cl, cm, hj, rfl, rfl, rfl, rfl, hne, ol, om, hb⟩ := hrel
    have HGL : Hid (w.heap.size ≤ gl) := owns_low ol
    have HGM : Hid (w.heap.size ≤ gm) := owns_low om
    have OL : Hid (wr.ownsRow w.heap.size 9 1 (.slice (some ⟨gl, 0, none⟩) j cl) j (textVals j (Gfm.pairF X Y A B))) := ol
    have OM : Hid (wr.ownsRow w.heap.size 9 1 (.slice (some ⟨gm, 0, none⟩) j cm) j (textVals j (Gfm.pairF X Y C D))) := om
    have NE : Hid (gl ≠ gm) := hne
    have HB : Hid (Below w.heap.size w wr) := hb
    have hsz := hb.size
    clear ol om hne hb
    by_cases hj8 : j < 8
    · have t1 : True := trivial
      have t2 : True := trivial
      by_cases hjX : j = X
      · have hjY : ¬ j = Y := by omega
        have ex : ((j : Int) == (X : Int)) = true := by rw [beq_iff_eq]; omega
        have ey : ((j : Int) == (Y : Int)) = false := by rw [beq_eq_false_iff_ne]; omega
        have cv1 := conv_one C (wr.alloc (.cells #[.int .u8 (A.toNat : Int)] 5))
        simp only [World.size_alloc] at cv1
        have HS : Hid (Gfm.pairF X Y A B j = Gfm.oneB A) := by show _ = _; unfold Gfm.pairF; simp only [*, if_true, if_false]
        have HT : Hid (Gfm.pairF X Y C D j = Gfm.oneB C) := by show _ = _; unfold Gfm.pairF; simp only [*, if_true, if_false]
        clear hjX hjY
        go_wp2_with (first | (at_builtin; have _t := t1; refine wpList_append_lies _ rfl _ _ 22 rfl w.heap.size 9 i0 (.string ByteArray.empty) 1 16 Try.underlying22 hi hz0 hz1 hz2 rfl (by decide) (.slice (some ⟨gl, 0, none⟩) j cl) j (textVals j (Gfm.pairF X Y A B)) rfl (by first | exact OL.out.alloc _ | exact (OL.out.alloc _).alloc _ | exact ((OL.out.alloc _).alloc _).alloc _) ⟨_, 0, none⟩ 1 1 [.string (Gfm.oneB A)] rfl rfl (cell_one_at _ _ (by simp) _ _) (by simp [Value.oneCell']) (by decide) (by unfold maxLen; omega) (by omega) (by simp; omega) _ rfl ?_; intro g1 c1 w3 own3 grow3 lies3 lt3; (obtain ⟨ol3, om3, ne3, hb3⟩ := grow_one (fl := Gfm.pairF X Y A B) OM.out (Ne.symm NE.out) HB.out (by first | exact (Below.refl _ _).alloc (Nat.le_refl _) _ | exact ((Below.refl _ _).alloc (Nat.le_refl _) _).alloc (by simp) _ | exact (((Below.refl _ _).alloc (Nat.le_refl _) _).alloc (by simp) _).alloc (by simp; omega) _) HGL.out own3 grow3 lies3 HS.out); (have OL3 : Hid (w3.ownsRow w.heap.size 9 1 (.slice (some ⟨g1, 0, none⟩) (j + 1) c1) (j + 1) (textVals (j + 1) (Gfm.pairF X Y A B))) := ol3); (have OM3 : Hid (w3.ownsRow w.heap.size 9 1 (.slice (some ⟨gm, 0, none⟩) j cm) j (textVals j (Gfm.pairF X Y C D))) := om3); (have NE3 : Hid (gm ≠ g1) := ne3); (have HB3 : Hid (Below w.heap.size w w3) := hb3); (have hsz3 := hb3.size); clear own3 grow3 lies3 lt3 ol3 om3 ne3 hb3; clear t1) | (at_builtin; have _t := t2; refine wpList_append_lies _ rfl _ _ 22 rfl w.heap.size 9 i0 (.string ByteArray.empty) 1 16 Try.underlying22 hi hz0 hz1 hz2 rfl (by decide) (.slice (some ⟨gm, 0, none⟩) j cm) j (textVals j (Gfm.pairF X Y C D)) rfl (by first | exact OM3.out.alloc _ | exact (OM3.out.alloc _).alloc _ | exact ((OM3.out.alloc _).alloc _).alloc _) ⟨_, 0, none⟩ 1 1 [.string (Gfm.oneB C)] rfl rfl (cell_one_at _ _ (by simp) _ _) (by simp [Value.oneCell']) (by decide) (by unfold maxLen; omega) (by omega) (by simp; omega) _ rfl ?_; intro g2 c2 w5 own5 grow5 lies5 lt5; (obtain ⟨om5, ol5, ne5, hb5⟩ := grow_one (fl := Gfm.pairF X Y C D) OL3.out (Ne.symm NE3.out) HB3.out (by first | exact (Below.refl _ _).alloc (Nat.le_refl _) _ | exact ((Below.refl _ _).alloc (Nat.le_refl _) _).alloc (by simp) _ | exact (((Below.refl _ _).alloc (Nat.le_refl _) _).alloc (by simp) _).alloc (by simp; omega) _) HGM.out own5 grow5 lies5 HT.out); (have OL5 : Hid (w5.ownsRow w.heap.size 9 1 (.slice (some ⟨g1, 0, none⟩) (j + 1) c1) (j + 1) (textVals (j + 1) (Gfm.pairF X Y A B))) := ol5); (have OM5 : Hid (w5.ownsRow w.heap.size 9 1 (.slice (some ⟨g2, 0, none⟩) (j + 1) c2) (j + 1) (textVals (j + 1) (Gfm.pairF X Y C D))) := om5); (have NE5 : Hid (g1 ≠ g2) := ne5); (have HB5 : Hid (Below w.heap.size w w5) := hb5); clear own5 grow5 lies5 lt5 ol5 om5 ne5 hb5; clear t2))
        go_roundg (8 - (j + 1))
        case measure => omega
        case rel => exact ⟨j + 1, g1, g2, c1, c2, by omega, rfl, rfl, rfl, by go_num, NE5.out, OL5.out, OM5.out, HB5.out⟩
      · by_cases hjY : j = Y
        · have ex : ((j : Int) == (X : Int)) = false := by rw [beq_eq_false_iff_ne]; omega
          have ey : ((j : Int) == (Y : Int)) = true := by rw [beq_iff_eq]; omega
          have cv1 := conv_one D (wr.alloc (.cells #[.int .u8 (B.toNat : Int)] 5))
          simp only [World.size_alloc] at cv1
          have HS : Hid (Gfm.pairF X Y A B j = Gfm.oneB B) := by show _ = _; unfold Gfm.pairF; simp only [*, if_true]
          have HT : Hid (Gfm.pairF X Y C D j = Gfm.oneB D) := by show _ = _; unfold Gfm.pairF; simp only [*, if_true]
          clear hjX hjY
          go_wp2_with (first | (at_builtin; have _t := t1; refine wpList_append_lies _ rfl _ _ 22 rfl w.heap.size 9 i0 (.string ByteArray.empty) 1 16 Try.underlying22 hi hz0 hz1 hz2 rfl (by decide) (.slice (some ⟨gl, 0, none⟩) j cl) j (textVals j (Gfm.pairF X Y A B)) rfl (by first | exact OL.out.alloc _ | exact (OL.out.alloc _).alloc _ | exact ((OL.out.alloc _).alloc _).alloc _) ⟨_, 0, none⟩ 1 1 [.string (Gfm.oneB B)] rfl rfl (cell_one_at _ _ (by simp) _ _) (by simp [Value.oneCell']) (by decide) (by unfold maxLen; omega) (by omega) (by simp; omega) _ rfl ?_; intro g1 c1 w3 own3 grow3 lies3 lt3; (obtain ⟨ol3, om3, ne3, hb3⟩ := grow_one (fl := Gfm.pairF X Y A B) OM.out (Ne.symm NE.out) HB.out (by first | exact (Below.refl _ _).alloc (Nat.le_refl _) _ | exact ((Below.refl _ _).alloc (Nat.le_refl _) _).alloc (by simp) _ | exact (((Below.refl _ _).alloc (Nat.le_refl _) _).alloc (by simp) _).alloc (by simp; omega) _) HGL.out own3 grow3 lies3 HS.out); (have OL3 : Hid (w3.ownsRow w.heap.size 9 1 (.slice (some ⟨g1, 0, none⟩) (j + 1) c1) (j + 1) (textVals (j + 1) (Gfm.pairF X Y A B))) := ol3); (have OM3 : Hid (w3.ownsRow w.heap.size 9 1 (.slice (some ⟨gm, 0, none⟩) j cm) j (textVals j (Gfm.pairF X Y C D))) := om3); (have NE3 : Hid (gm ≠ g1) := ne3); (have HB3 : Hid (Below w.heap.size w w3) := hb3); (have hsz3 := hb3.size); clear own3 grow3 lies3 lt3 ol3 om3 ne3 hb3; clear t1) | (at_builtin; have _t := t2; refine wpList_append_lies _ rfl _ _ 22 rfl w.heap.size 9 i0 (.string ByteArray.empty) 1 16 Try.underlying22 hi hz0 hz1 hz2 rfl (by decide) (.slice (some ⟨gm, 0, none⟩) j cm) j (textVals j (Gfm.pairF X Y C D)) rfl (by first | exact OM3.out.alloc _ | exact (OM3.out.alloc _).alloc _ | exact ((OM3.out.alloc _).alloc _).alloc _) ⟨_, 0, none⟩ 1 1 [.string (Gfm.oneB D)] rfl rfl (cell_one_at _ _ (by simp) _ _) (by simp [Value.oneCell']) (by decide) (by unfold maxLen; omega) (by omega) (by simp; omega) _ rfl ?_; intro g2 c2 w5 own5 grow5 lies5 lt5; (obtain ⟨om5, ol5, ne5, hb5⟩ := grow_one (fl := Gfm.pairF X Y C D) OL3.out (Ne.symm NE3.out) HB3.out (by first | exact (Below.refl _ _).alloc (Nat.le_refl _) _ | exact ((Below.refl _ _).alloc (Nat.le_refl _) _).alloc (by simp) _ | exact (((Below.refl _ _).alloc (Nat.le_refl _) _).alloc (by simp) _).alloc (by simp; omega) _) HGM.out own5 grow5 lies5 HT.out); (have OL5 : Hid (w5.ownsRow w.heap.size 9 1 (.slice (some ⟨g1, 0, none⟩) (j + 1) c1) (j + 1) (textVals (j + 1) (Gfm.pairF X Y A B))) := ol5); (have OM5 : Hid (w5.ownsRow w.heap.size 9 1 (.slice (some ⟨g2, 0, none⟩) (j + 1) c2) (j + 1) (textVals (j + 1) (Gfm.pairF X Y C D))) := om5); (have NE5 : Hid (g1 ≠ g2) := ne5); (have HB5 : Hid (Below w.heap.size w w5) := hb5); clear own5 grow5 lies5 lt5 ol5 om5 ne5 hb5; clear t2))
          go_roundg (8 - (j + 1))
          case measure => omega
          case rel => exact ⟨j + 1, g1, g2, c1, c2, by omega, rfl, rfl, rfl, by go_num, NE5.out, OL5.out, OM5.out, HB5.out⟩
        · have ex : ((j : Int) == (X : Int)) = false := by rw [beq_eq_false_iff_ne]; omega
          have ey : ((j : Int) == (Y : Int)) = false := by rw [beq_eq_false_iff_ne]; omega
          have HS : Hid (Gfm.pairF X Y A B j = Gfm.oneB 0) := by show _ = _; unfold Gfm.pairF; simp only [*, if_false]
          have HT : Hid (Gfm.pairF X Y C D j = Gfm.oneB 0) := by show _ = _; unfold Gfm.pairF; simp only [*, if_false]
          clear hjX hjY
          go_wp2_with (first | (at_builtin; have _t := t1; refine wpList_append_lies _ rfl _ _ 22 rfl w.heap.size 9 i0 (.string ByteArray.empty) 1 16 Try.underlying22 hi hz0 hz1 hz2 rfl (by decide) (.slice (some ⟨gl, 0, none⟩) j cl) j (textVals j (Gfm.pairF X Y A B)) rfl (by first | exact OL.out.alloc _ | exact (OL.out.alloc _).alloc _ | exact ((OL.out.alloc _).alloc _).alloc _) ⟨_, 0, none⟩ 1 1 [.string (Gfm.oneB 0)] rfl rfl (cell_one_at _ _ (by simp) _ _) (by simp [Value.oneCell']) (by decide) (by unfold maxLen; omega) (by omega) (by simp; omega) _ rfl ?_; intro g1 c1 w3 own3 grow3 lies3 lt3; (obtain ⟨ol3, om3, ne3, hb3⟩ := grow_one (fl := Gfm.pairF X Y A B) OM.out (Ne.symm NE.out) HB.out (by first | exact (Below.refl _ _).alloc (Nat.le_refl _) _ | exact ((Below.refl _ _).alloc (Nat.le_refl _) _).alloc (by simp) _ | exact (((Below.refl _ _).alloc (Nat.le_refl _) _).alloc (by simp) _).alloc (by simp; omega) _) HGL.out own3 grow3 lies3 HS.out); (have OL3 : Hid (w3.ownsRow w.heap.size 9 1 (.slice (some ⟨g1, 0, none⟩) (j + 1) c1) (j + 1) (textVals (j + 1) (Gfm.pairF X Y A B))) := ol3); (have OM3 : Hid (w3.ownsRow w.heap.size 9 1 (.slice (some ⟨gm, 0, none⟩) j cm) j (textVals j (Gfm.pairF X Y C D))) := om3); (have NE3 : Hid (gm ≠ g1) := ne3); (have HB3 : Hid (Below w.heap.size w w3) := hb3); (have hsz3 := hb3.size); clear own3 grow3 lies3 lt3 ol3 om3 ne3 hb3; clear t1) | (at_builtin; have _t := t2; refine wpList_append_lies _ rfl _ _ 22 rfl w.heap.size 9 i0 (.string ByteArray.empty) 1 16 Try.underlying22 hi hz0 hz1 hz2 rfl (by decide) (.slice (some ⟨gm, 0, none⟩) j cm) j (textVals j (Gfm.pairF X Y C D)) rfl (by first | exact OM3.out.alloc _ | exact (OM3.out.alloc _).alloc _ | exact ((OM3.out.alloc _).alloc _).alloc _) ⟨_, 0, none⟩ 1 1 [.string (Gfm.oneB 0)] rfl rfl (cell_one_at _ _ (by simp) _ _) (by simp [Value.oneCell']) (by decide) (by unfold maxLen; omega) (by omega) (by simp; omega) _ rfl ?_; intro g2 c2 w5 own5 grow5 lies5 lt5; (obtain ⟨om5, ol5, ne5, hb5⟩ := grow_one (fl := Gfm.pairF X Y C D) OL3.out (Ne.symm NE3.out) HB3.out (by first | exact (Below.refl _ _).alloc (Nat.le_refl _) _ | exact ((Below.refl _ _).alloc (Nat.le_refl _) _).alloc (by simp) _ | exact (((Below.refl _ _).alloc (Nat.le_refl _) _).alloc (by simp) _).alloc (by simp; omega) _) HGM.out own5 grow5 lies5 HT.out); (have OL5 : Hid (w5.ownsRow w.heap.size 9 1 (.slice (some ⟨g1, 0, none⟩) (j + 1) c1) (j + 1) (textVals (j + 1) (Gfm.pairF X Y A B))) := ol5); (have OM5 : Hid (w5.ownsRow w.heap.size 9 1 (.slice (some ⟨g2, 0, none⟩) (j + 1) c2) (j + 1) (textVals (j + 1) (Gfm.pairF X Y C D))) := om5); (have NE5 : Hid (g1 ≠ g2) := ne5); (have HB5 : Hid (Below w.heap.size w w5) := hb5); clear own5 grow5 lies5 lt5 ol5 om5 ne5 hb5; clear t2))
          go_roundg (8 - (j + 1))
          case measure => omega
          case rel => exact ⟨j + 1, g1, g2, c1, c2, by omega, rfl, rfl, rfl, by go_num, NE5.out, OL5.out, OM5.out, HB5.out⟩
    · have hjj : j = 8 := by omega
      subst hjj
      obtain ⟨a1, k1, e1, r1, _, _⟩ := RowS.of_owns OL.out
      obtain ⟨a2, k2, e2, r2, _, _⟩ := RowS.of_owns OM.out
      cases e1
      cases e2
      have R1 : Hid (RowS wr (some ⟨gl, 0, none⟩) 8 (Gfm.pairF X Y A B)) := r1
      have R2 : Hid (RowS wr (some ⟨gm, 0, none⟩) 8 (Gfm.pairF X Y C D)) := r2
      clear r1 r2
      have hP1 := fun W (h : Below wr.heap.size wr W) => P_any 8 (Gfm.pairF X Y A B) (by decide) (Gfm.pairF_le X Y A B 8) (some ⟨gl, 0, none⟩) cl W (R1.out.below h)
      have hP2 := fun W (h : Below wr.heap.size wr W) => P_any 8 (Gfm.pairF X Y C D) (by decide) (Gfm.pairF_le X Y C D 8) (some ⟨gm, 0, none⟩) cm W (R2.out.below h)
      have hQ1 := fun W (h : Below wr.heap.size wr W) => Q_any 8 (Gfm.pairF X Y A B) (by decide) (Gfm.pairF_le X Y A B 8) (some ⟨gl, 0, none⟩) cl W (R1.out.below h)
      have hQ2 := fun W (h : Below wr.heap.size wr W) => Q_any 8 (Gfm.pairF X Y C D) (by decide) (Gfm.pairF_le X Y C D 8) (some ⟨gm, 0, none⟩) cm W (R2.out.below h)
      have TOLD : Hid (Gfm.addF 8 (Gfm.pairF X Y A B) = Gfm.addF 8 (Gfm.pairF X Y C D) → Gfm.addF 8 (Gfm.qT (Gfm.pairF X Y A B)) = Gfm.addF 8 (Gfm.qT (Gfm.pairF X Y C D)) → A = C ∧ B = D) := Gfm.pair_told hXY hX hY
      have SAME : Hid (A = C → B = D → Gfm.addF 8 (Gfm.pairF X Y A B) = Gfm.addF 8 (Gfm.pairF X Y C D) ∧ Gfm.addF 8 (Gfm.qT (Gfm.pairF X Y A B)) = Gfm.addF 8 (Gfm.qT (Gfm.pairF X Y C D))) := fun h1 h2 => by subst h1; subst h2; exact ⟨rfl, rfl⟩
      obtain ⟨P1, hP1e⟩ : ∃ x, Gfm.addF 8 (Gfm.pairF X Y A B) = x := ⟨_, rfl⟩
      obtain ⟨P2, hP2e⟩ : ∃ x, Gfm.addF 8 (Gfm.pairF X Y C D) = x := ⟨_, rfl⟩
      obtain ⟨Q1, hQ1e⟩ : ∃ x, Gfm.addF 8 (Gfm.qT (Gfm.pairF X Y A B)) = x := ⟨_, rfl⟩
      obtain ⟨Q2, hQ2e⟩ : ∃ x, Gfm.addF 8 (Gfm.qT (Gfm.pairF X Y C D)) = x := ⟨_, rfl⟩
      rw [hP1e] at hP1 TOLD SAME
      rw [hP2e] at hP2 TOLD SAME
      rw [hQ1e] at hQ1 TOLD SAME
      rw [hQ2e] at hQ2 TOLD SAME
      clear hP1e hP2e hQ1e hQ2e
      by_cases hAC : A = C ∧ B = D
      · obtain ⟨p, q⟩ := SAME.out hAC.1 hAC.2
        subst p
        subst q
        obtain ⟨hA, hB⟩ := hAC
        subst hA
        subst hB
        go_wp2_with fail
        refine (hP1 _ (Below.refl _ _)).mono ?_
        rintro e v1 ⟨rfl, b1⟩
        go_wp2_with fail
        refine (hP2 _ b1).mono ?_
        rintro e v2 ⟨rfl, b2⟩
        have b2 := below2 b1 b2
        go_wp2_with fail
        refine (hQ1 _ b2).mono ?_
        rintro e v3 ⟨rfl, b3⟩
        have b3 := below2 b2 b3
        go_wp2_with fail
        refine (hQ2 _ b3).mono ?_
        rintro e v4 ⟨rfl, b4⟩
        have b4 := below2 b3 b4
        go_wp2_with fail
        refine (shown5_any _).mono ?_
        rintro e v5 ⟨rfl, b5⟩
        have HB5 : Hid (Below w.heap.size w v5) := HB.out.trans ((below2 b4 b5).mono HB.out.size)
        clear b1 b2 b4 b5
        go_wp2
        go_ret
        exact ⟨rfl, HB5.out⟩
      · have hb : ¬ (P1 = P2 ∧ Q1 = Q2) := fun h => hAC (TOLD.out h.1 h.2)
        by_cases hP : P1 = P2
        · have hQ : ¬ Q1 = Q2 := fun h => hb ⟨hP, h⟩
          have hQb : (Q1.toList == Q2.toList) = false := texts_apart hQ
          subst hP
          clear hb
          by_cases hA : A = C
          · have hB : ¬ B = D := fun h => hAC ⟨hA, h⟩
            have hBb : ((B.toNat : Int) == (D.toNat : Int)) = false := by rw [beq_eq_false_iff_ne]; intro h; exact hB (UInt8.toNat_inj.1 (by omega))
            subst hA
            clear hQ hB hAC SAME TOLD
            go_wp2_with fail
            refine (hP1 _ (Below.refl _ _)).mono ?_
            rintro e v1 ⟨rfl, b1⟩
            go_wp2_with fail
            refine (hP2 _ b1).mono ?_
            rintro e v2 ⟨rfl, b2⟩
            have b2 := below2 b1 b2
            go_wp2_with fail
            refine (hQ1 _ b2).mono ?_
            rintro e v3 ⟨rfl, b3⟩
            have b3 := below2 b2 b3
            go_wp2_with fail
            refine (hQ2 _ b3).mono ?_
            rintro e v4 ⟨rfl, b4⟩
            have b4 := below2 b3 b4
            go_wp2_with fail
            refine (shown5_any _).mono ?_
            rintro e v5 ⟨rfl, b5⟩
            have HB5 : Hid (Below w.heap.size w v5) := HB.out.trans ((below2 b4 b5).mono HB.out.size)
            clear b1 b2 b4 b5
            go_wp2
            go_ret
            exact ⟨rfl, HB5.out⟩
          · have hAb : ((A.toNat : Int) == (C.toNat : Int)) = false := by rw [beq_eq_false_iff_ne]; intro h; exact hA (UInt8.toNat_inj.1 (by omega))
            clear hQ hA hAC SAME TOLD
            go_wp2_with fail
            refine (hP1 _ (Below.refl _ _)).mono ?_
            rintro e v1 ⟨rfl, b1⟩
            go_wp2_with fail
            refine (hP2 _ b1).mono ?_
            rintro e v2 ⟨rfl, b2⟩
            have b2 := below2 b1 b2
            go_wp2_with fail
            refine (hQ1 _ b2).mono ?_
            rintro e v3 ⟨rfl, b3⟩
            have b3 := below2 b2 b3
            go_wp2_with fail
            refine (hQ2 _ b3).mono ?_
            rintro e v4 ⟨rfl, b4⟩
            have b4 := below2 b3 b4
            go_wp2_with fail
            refine (shown5_any _).mono ?_
            rintro e v5 ⟨rfl, b5⟩
            have HB5 : Hid (Below w.heap.size w v5) := HB.out.trans ((below2 b4 b5).mono HB.out.size)
            clear b1 b2 b4 b5
            go_wp2
            go_ret
            exact ⟨rfl, HB5.out⟩
        · have hPb : (P1.toList == P2.toList) = false := texts_apart hP
          clear hb
          by_cases hA : A = C
          · have hB : ¬ B = D := fun h => hAC ⟨hA, h⟩
            have hBb : ((B.toNat : Int) == (D.toNat : Int)) = false := by rw [beq_eq_false_iff_ne]; intro h; exact hB (UInt8.toNat_inj.1 (by omega))
            subst hA
            clear hP hB hAC SAME TOLD
            go_wp2_with fail
            refine (hP1 _ (Below.refl _ _)).mono ?_
            rintro e v1 ⟨rfl, b1⟩
            go_wp2_with fail
            refine (hP2 _ b1).mono ?_
            rintro e v2 ⟨rfl, b2⟩
            have b2 := below2 b1 b2
            have b4 := b2
            go_wp2_with fail
            refine (shown5_any _).mono ?_
            rintro e v5 ⟨rfl, b5⟩
            have HB5 : Hid (Below w.heap.size w v5) := HB.out.trans ((below2 b4 b5).mono HB.out.size)
            clear b1 b2 b4 b5
            go_wp2
            go_ret
            exact ⟨rfl, HB5.out⟩
          · have hAb : ((A.toNat : Int) == (C.toNat : Int)) = false := by rw [beq_eq_false_iff_ne]; intro h; exact hA (UInt8.toNat_inj.1 (by omega))
            clear hP hA hAC SAME TOLD
            go_wp2_with fail
            refine (hP1 _ (Below.refl _ _)).mono ?_
            rintro e v1 ⟨rfl, b1⟩
            go_wp2_with fail
            refine (hP2 _ b1).mono ?_
            rintro e v2 ⟨rfl, b2⟩
            have b2 := below2 b1 b2
            have b4 := b2
            go_wp2_with fail
            refine (shown5_any _).mono ?_
            rintro e v5 ⟨rfl, b5⟩
            have HB5 : Hid (Below w.heap.size w v5) := HB.out.trans ((below2 b4 b5).mono HB.out.size)
            clear b1 b2 b4 b5
            go_wp2
            go_ret
            exact ⟨rfl, HB5.out⟩

theorem byte_of {a : Int} (h : 0 ≤ a ∧ a < 256) : ∃ A : UInt8, a = (A.toNat : Int) := ⟨UInt8.ofNat a.toNat, by rw [UInt8.toNat_ofNat']; omega⟩
theorem walk (a0 : Int) (w0 : (Lit.int .u8 a0).wf = true) (a1 : Int) (w1 : (Lit.int .u8 a1).wf = true) (a2 : Int) (w2 : (Lit.int .u8 a2).wf = true) (a3 : Int) (w3 : (Lit.int .u8 a3).wf = true) (a4 : Int) (w4 : (Lit.int .u8 a4).wf = true) (a5 : Int) (w5 : (Lit.int .u8 a5).wf = true) (w : World) :
    Calls Try.prog 8 #[.int .u8 a0, .int .u8 a1, .int .u8 a2, .int .u8 a3, .int .u8 a4, .int .u8 a5] w fun e w' => e = .returned (.bool true) ∧ Below w.heap.size w w' := by
  have b4 := bounds_u8 w4
  have b5 := bounds_u8 w5
  have b0 := bounds_u8 w0
  have b1 := bounds_u8 w1
  have b2 := bounds_u8 w2
  have b3 := bounds_u8 w3
  obtain ⟨A, rfl⟩ := byte_of (a := a0) (by omega)
  obtain ⟨B, rfl⟩ := byte_of (a := a1) (by omega)
  obtain ⟨C, rfl⟩ := byte_of (a := a2) (by omega)
  obtain ⟨D, rfl⟩ := byte_of (a := a3) (by omega)
  obtain ⟨i, rfl⟩ := Int.eq_ofNat_of_zero_le b4.1
  obtain ⟨k, rfl⟩ := Int.eq_ofNat_of_zero_le b5.1
  by_cases h : i % 8 = k % 8
  · exact core_met A B C D (i % 8) ((i % 8 + 1) % 8) i k (by omega) (by omega) (by omega) (by omega) (by omega) rfl ⟨h.symm, rfl⟩ w
  · exact core_apart A B C D (i % 8) (k % 8) i k (by omega) (by omega) h (by omega) (by omega) rfl rfl w

theorem own : ownKnob Try.prog.godebug = none := by kernel_rfl
set_option linter.unusedVariables false in
set_option maxRecDepth 100000 in
theorem lifted (os : Os) (started : os.Started) (H : Type) (enc : TypeId × Value → H) :
    ReturnsInHanded {} Try.checked os 8 .any (Rows.syndromeTwoSpec.pre6 enc Try.prog Try.f8 Rows.syndromeTwoRow.domain false) (Rows.syndromeTwoSpec.post enc Try.prog Try.f8 false true false false) := by
  refine returnsInHanded_of_change (C := Try.checked) own started (by kernel_rfl) Try.func8
    (ChangeSpec.witness6 (enc := enc) (C := Try.checked) false ⟨#[], #[.int .u8 0, .int .u8 0, .int .u8 0, .int .u8 0, .int .u8 0, .int .u8 0], []⟩ 8 (by kernel_rfl) (by kernel_rfl) (by kernel_rfl) (by kernel_rfl)) ?_
  intro W base args ds gs before hval0 hW hcnd _
  have hval : ∀ (j : Nat) t v, Try.f8.params[j]? = some t → args[j]? = some v → Value.okWide Try.prog W .any base t v := hval0
  have hW' := hW
  obtain ⟨p, q, hA0, hV, rfl, hfz, hnd⟩ := hW
  have hA : DataW.TrodAll enc Try.prog W 0 (fun _ => true) true Try.f8.params.toList args.toList ds p := hA0
  rw [Try.params8] at hA hval
  obtain ⟨v0, vs0, d0, ds0, p0, q0, hargs, rfl, rfl, h0, r0⟩ := trodAll_cons hA
  obtain ⟨v1, vs1, d1, ds1, p1, q1, rfl, rfl, rfl, h1, r1⟩ := trodAll_cons r0
  obtain ⟨v2, vs2, d2, ds2, p2, q2, rfl, rfl, rfl, h2, r2⟩ := trodAll_cons r1
  obtain ⟨v3, vs3, d3, ds3, p3, q3, rfl, rfl, rfl, h3, r3⟩ := trodAll_cons r2
  obtain ⟨v4, vs4, d4, ds4, p4, q4, rfl, rfl, rfl, h4, r4⟩ := trodAll_cons r3
  obtain ⟨v5, vs5, d5, ds5, p5, q5, rfl, rfl, rfl, h5, r5⟩ := trodAll_cons r4
  obtain ⟨rfl, rfl, rfl⟩ := trodAll_nil r5
  obtain rfl : args = #[v0, v1, v2, v3, v4, v5] := by cases args; simp_all
  obtain ⟨rfl, rfl⟩ := trodVars_none hV
  obtain ⟨a0, rfl, rfl, rfl, w0⟩ := open_int Try.underlying5 (hval 0 5 v0 rfl rfl) h0
  obtain ⟨a1, rfl, rfl, rfl, w1⟩ := open_int Try.underlying5 (hval 1 5 v1 rfl rfl) h1
  obtain ⟨a2, rfl, rfl, rfl, w2⟩ := open_int Try.underlying5 (hval 2 5 v2 rfl rfl) h2
  obtain ⟨a3, rfl, rfl, rfl, w3⟩ := open_int Try.underlying5 (hval 3 5 v3 rfl rfl) h3
  obtain ⟨a4, rfl, rfl, rfl, w4⟩ := open_int Try.underlying5 (hval 4 5 v4 rfl rfl) h4
  obtain ⟨a5, rfl, rfl, rfl, w5⟩ := open_int Try.underlying5 (hval 5 5 v5 rfl rfl) h5
  clear hA0 hval0
  simp only [List.append_nil] at hW'
  refine (walk a0 w0 a1 w1 a2 w2 a3 w3 a4 w4 a5 w5 W).mono fun e W' ⟨he, hg⟩ => ?_
  subst he
  exact ⟨_, rfl, _, _, _, [], [], [], hW', trodAll_mk1 (shut_bool Try.underlying4 _), (trodAll_cons_mk (shut_int Try.underlying5 w0) (trodAll_cons_mk (shut_int Try.underlying5 w1) (trodAll_cons_mk (shut_int Try.underlying5 w2) (trodAll_cons_mk (shut_int Try.underlying5 w3) (trodAll_cons_mk (shut_int Try.underlying5 w4) (trodAll_cons_mk (shut_int Try.underlying5 w5) trodAll_mk0)))))), rfl, hg.frame _, fun h => by cases h⟩
/-- For every input the law returns true, and each argument reads as it did. -/
theorem proved : Rows.SyndromeTwoSaid :=
  OpenClaim.holds_of_wide 8 Try.f8 rfl rfl rfl rfl rfl rfl rfl ⟨rfl, rfl, rfl, rfl, rfl⟩ rfl rfl rfl rfl rfl (by kernel_rfl) Try.func8 (by kernel_rfl)
    (of_decide_eq_true (by kernel_rfl)) (by unfold Func.isWrapper; first | (rw [if_pos (by decide +kernel)]; kernel_rfl) | (rw [if_neg (by decide +kernel)]; exact ⟨rfl, rfl⟩))
    (fun os started H enc _ => lifted os started H enc)
end Go.Proofs.Ytekpamadimachaa.syndromeTwo
