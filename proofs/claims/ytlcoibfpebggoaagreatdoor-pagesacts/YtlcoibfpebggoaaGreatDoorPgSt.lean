/- The law's eight drives and its two rows in one memory: what each call makes of them. What is asked of the program's Save, Load, All, Join stands as plain propositions, the document's own keep them. -/
import Derived.Test.YtlcoibfpebggoaaGreatDoorMPgC
import Derived.Test.YtlcoibfpebggoaaGreatDoorRefMany
import Derived.Test.YtlcoibfpebggoaaGreatDoorMDrvC
import Derived.Test.YtlcoibfpebggoaaGreatDoorMRefA
import Derived.Test.YtlcoibfpebggoaaGreatDoorMPgE
namespace Go.Proofs.YtlcoibfpebggoaaGreatDoor
open Go.RowKit

/-- where they stand -/
structure Eight where
  vd : Value
  vr : Value
  pp : Nat → Nat
  rp : Nat → Nat
/-- the two rows, the program's four, the document's four, and a call's cells -/
def tb (e : Eight) (X Y : Nat → Dr) (A : Nat) (cs : Array Value) : Nat → Thing := fun x =>
  if x = 0 then rowT 39 e.vd (lst5 e.pp) else if x = 1 then rowT 41 e.vr (lst5 e.rp) else
  if x < 6 then drvT (e.pp (x - 2)) (X (x - 2)) else if x < 10 then refT (e.rp (x - 6)) (Y (x - 6)) else blkT A 44 cs
section
variable {e : Eight} {X Y : Nat → Dr} {A : Nat} {cs : Array Value}
theorem tb_d : tb e X Y A cs 0 = rowT 39 e.vd (lst5 e.pp) := rfl
theorem tb_r : tb e X Y A cs 1 = rowT 41 e.vr (lst5 e.rp) := rfl
theorem tb_pd {i : Nat} (h : i < 4) : tb e X Y A cs (2 + i) = drvT (e.pp i) (X i) := by
  unfold tb
  rw [if_neg (by omega), if_neg (by omega), if_pos (by omega), show 2 + i - 2 = i by omega]
theorem tb_pr {i : Nat} (h : i < 4) : tb e X Y A cs (6 + i) = refT (e.rp i) (Y i) := by
  unfold tb
  rw [if_neg (by omega), if_neg (by omega), if_neg (by omega), if_pos (by omega), show 6 + i - 6 = i by omega]
theorem tb_act : tb e X Y A cs 10 = blkT A 44 cs := rfl
theorem tb_put_d {i : Nat} (h : i < 4) (D : Dr) : swap1 (tb e X Y A cs) (2 + i) (drvT (e.pp i) D) = tb e (swap1 X i D) Y A cs := by
  funext x
  by_cases hx : x = 2 + i
  · subst hx; rw [swap1_same, tb_pd h, swap1_same]
  · rw [swap1_other _ _ hx]
    unfold tb
    by_cases h6 : x < 6
    · by_cases h2 : 2 ≤ x
      · have : swap1 X i D (x - 2) = X (x - 2) := swap1_other _ _ (by omega)
        rw [this]
      · have : x = 0 ∨ x = 1 := by omega
        rcases this with rfl | rfl <;> rfl
    · simp only [h6, if_false]
theorem tb_put_r {i : Nat} (h : i < 4) (D : Dr) : swap1 (tb e X Y A cs) (6 + i) (refT (e.rp i) D) = tb e X (swap1 Y i D) A cs := by
  funext x
  by_cases hx : x = 6 + i
  · subst hx; rw [swap1_same, tb_pr h, swap1_same]
  · rw [swap1_other _ _ hx]
    unfold tb
    by_cases h6 : x < 6
    · simp only [h6, if_true]
    · by_cases h10 : x < 10
      · have : swap1 Y i D (x - 6) = Y (x - 6) := swap1_other _ _ (by omega)
        rw [this]
      · simp only [h10, if_false]
theorem tb_all_d (X' : Nat → Dr) (x : Nat) : spread (tb e X Y A cs) 2 4 (fun i => drvT (e.pp i) (X' i)) x = tb e X' Y A cs x := by
  unfold spread
  split
  · rename_i h
    obtain ⟨i, rfl⟩ : ∃ i, x = 2 + i := ⟨x - 2, by omega⟩
    rw [tb_pd (by omega), show 2 + i - 2 = i by omega]
  · rename_i h
    unfold tb
    by_cases h6 : x < 6
    · have : x = 0 ∨ x = 1 := by omega
      rcases this with rfl | rfl <;> rfl
    · simp only [h6, if_false]
theorem tb_all_r (Y' : Nat → Dr) (x : Nat) : spread (tb e X Y A cs) 6 4 (fun i => refT (e.rp i) (Y' i)) x = tb e X Y' A cs x := by
  unfold spread
  split
  · rename_i h
    obtain ⟨i, rfl⟩ : ∃ i, x = 6 + i := ⟨x - 6, by omega⟩
    rw [tb_pr (by omega), show 6 + i - 6 = i by omega]
  · rename_i h
    unfold tb
    by_cases h6 : x < 6
    · simp only [h6, if_true]
    · have h10 : ¬ x < 10 := by omega
      simp only [h10, if_false]
end

theorem rSave_does : SaveDoes 15 refT := fun h hf p hp => rsave11_any h hf.goes p hp hf.len hf.lens
theorem rLoad_does : LoadDoes 26 refT := fun h hg => rload11_any h hg
theorem rAll_does : AllDoes 23 refT 41 := fun h ri o n hon hro a cap L hrow rp R hT q hq hR hl p hp => rAll11_any h ri o n hon hro a cap L hrow rp R hT q hq hR hl p hp
theorem rJoin_does : JoinDoes 28 refT 41 := fun h ri o n hon hro a cap L hrow rp R hT q hq hR hl v hv => rJoin11_any h ri o n hon hro a cap L hrow rp R hT q hq hR hl v hv

/-- all of it in one memory, told by plain drives -/
def St (w : World) (B m : Nat) (e : Eight) (X Y : Nat → Dr) (A : Nat) (cs : Array Value) : Prop := Many w B m (tb e X Y A cs)
/-- what a call may turn -/
abbrev Old (B : Nat) (w : World) : Nat → Prop := fun k => B ≤ k ∧ k < w.heap.size
section
variable {w w' : World} {B m : Nat} {e : Eight} {X Y : Nat → Dr} {A : Nat} {cs : Array Value}
theorem St.below (h : St w B m e X Y A cs) (hb : Below w.heap.size w w') : St w' B m e X Y A cs := Many.below h hb
theorem St.size (h : St w B m e X Y A cs) : B ≤ w.heap.size := Many.size h
theorem old_low (h : Only (Old B w) w w') (hB : B ≤ w.heap.size) : Below B w w' := h.below (fun _ hk => hk.1) hB
theorem St.heads (h : St w B m e X Y A cs) (hm : 2 ≤ m) : ∃ a cap b cap', e.vd = .slice (some ⟨a, 0, none⟩) 5 cap ∧ e.vr = .slice (some ⟨b, 0, none⟩) 5 cap' := by
  obtain ⟨F, hF, _⟩ := Many.look h (i := 0) (by omega)
  obtain ⟨G, hG, _⟩ := Many.look h (i := 1) (by omega)
  obtain ⟨a, cap, h1, _⟩ := rowT_at (j := 0) hF (lst5_at e.pp (by decide))
  obtain ⟨b, cap', h2, _⟩ := rowT_at (j := 0) hG (lst5_at e.rp (by decide))
  exact ⟨a, cap, b, cap', h1, h2⟩
theorem St.atD (h : St w B m e X Y A cs) (hm : 2 ≤ m) {a N cap : Nat} (hv : e.vd = .slice (some ⟨a, 0, none⟩) N cap) {i : Nat} (hi : i < 4) : w.cell? ⟨a, i, none⟩ = some (.pointer (some ⟨e.pp i, 0, none⟩)) :=
  many_row h (ri := 0) (by omega) (by rw [tb_d, hv]) (lst5_at e.pp hi)
theorem St.atR (h : St w B m e X Y A cs) (hm : 2 ≤ m) {a N cap : Nat} (hv : e.vr = .slice (some ⟨a, 0, none⟩) N cap) {i : Nat} (hi : i < 4) : w.cell? ⟨a, i, none⟩ = some (.pointer (some ⟨e.rp i, 0, none⟩)) :=
  many_row h (ri := 1) (by omega) (by rw [tb_r, hv]) (lst5_at e.rp hi)
theorem St.atA (h : St w B 11 e X Y A cs) (j : Nat) : w.cell? ⟨A, j, none⟩ = cs[j]? := many_blk h (bi := 10) (by omega) tb_act j
/-- a call's cells, new -/
theorem St.act (h : St w B 10 e X Y A cs) (cs' : Array Value) : St (w.alloc (.cells cs' 44)) B 11 e X Y w.heap.size cs' := by
  refine (Many.add h (T' := blkT w.heap.size 44 cs') (G := fun k => w.heap.size ≤ k) ((Below.refl _ w).alloc (Nat.le_refl _) _) (blk_new _ _ _) (fun _ hk => hk)).congr fun i hi => ?_
  by_cases e1 : i = 10
  · subst e1; rw [swap1_same]; rfl
  · rw [swap1_other _ _ e1]
    unfold tb
    have h10 : i < 10 := by omega
    simp only [h10, if_true]
/-- and left -/
theorem St.left (h : St w B 11 e X Y A cs) (A' : Nat) (cs' : Array Value) : St w B 10 e X Y A' cs' := by
  refine (Many.less h (by omega)).congr fun i hi => ?_
  unfold tb
  simp only [hi, if_true]
theorem St.callD (h : St w B 11 e X Y A cs) {i : Nat} (hi : i < 4) {f : FuncId} {args : Array Value} (D : Dr) {Q : Ending → Prop} (hc : ∀ F, DriveAt w (e.pp i) (X i) F → Calls Tryz.prog f args w fun e' w' => Q e' ∧ DriveAt w' (e.pp i) D (Plus F w.heap.size) ∧ Only F w w') :
    Calls Tryz.prog f args w fun e' w' => Q e' ∧ St w' B 11 e (swap1 X i D) Y A cs ∧ Only (Old B w) w w' := by
  refine (Many.call h (i := 2 + i) (by omega) (drvT (e.pp i) D) (Q := Q) (fun F hF _ => hc F (by rw [tb_pd hi] at hF; exact hF))).mono ?_
  rintro e' w' ⟨q, hm, ho⟩
  rw [tb_put_d hi] at hm
  exact ⟨q, hm, ho⟩
theorem St.callR (h : St w B 11 e X Y A cs) {i : Nat} (hi : i < 4) {f : FuncId} {args : Array Value} (D : Dr) {Q : Ending → Prop} (hc : ∀ F, RefAt w (e.rp i) (Y i) F → Calls Tryz.prog f args w fun e' w' => Q e' ∧ RefAt w' (e.rp i) D (Plus F w.heap.size) ∧ Only F w w') :
    Calls Tryz.prog f args w fun e' w' => Q e' ∧ St w' B 11 e X (swap1 Y i D) A cs ∧ Only (Old B w) w w' := by
  refine (Many.call h (i := 6 + i) (by omega) (refT (e.rp i) D) (Q := Q) (fun F hF _ => hc F (by rw [tb_pr hi] at hF; exact hF))).mono ?_
  rintro e' w' ⟨q, hm, ho⟩
  rw [tb_put_r hi] at hm
  exact ⟨q, hm, ho⟩
theorem St.save (P : PgDoes) (h : St w B 11 e X Y A cs) {i : Nat} (hi : i < 4) (hf : (X i).Fit11) (p : Pge) (hp : p.ev < 18446744073709551616) :
    Calls Tryz.prog 14 #[.pointer (some ⟨e.pp i, 0, none⟩), pgV p] w fun e' w' => e' = .returned (.int .i64 ((X i).pgSaveE p : Nat)) ∧ St w' B 11 e (swap1 X i ((X i).pgSaveD p)) Y A cs ∧ Only (Old B w) w w' :=
  h.callD hi _ fun _ hF => P.save hF hf p hp
theorem St.rsave (h : St w B 11 e X Y A cs) {i : Nat} (hi : i < 4) (hf : (Y i).Fit11) (p : Pge) (hp : p.ev < 18446744073709551616) :
    Calls Tryz.prog 15 #[.pointer (some ⟨e.rp i, 0, none⟩), pgV p] w fun e' w' => e' = .returned (.int .i64 ((Y i).pgSaveE p : Nat)) ∧ St w' B 11 e X (swap1 Y i ((Y i).pgSaveD p)) A cs ∧ Only (Old B w) w w' :=
  h.callR hi _ fun _ hF => rSave_does hF hf p hp
theorem St.load (P : PgDoes) (h : St w B 11 e X Y A cs) {i : Nat} (hi : i < 4) (hf : (X i).goes = false) :
    Calls Tryz.prog 25 #[.pointer (some ⟨e.pp i, 0, none⟩)] w fun e' w' => e' = .returned (.tuple #[pgV (X i).pgS, .int .i64 ((X i).pgE : Nat)]) ∧ Below w.heap.size w w' := by
  obtain ⟨F, hF, _⟩ := Many.look h (i := 2 + i) (by omega)
  rw [tb_pd hi] at hF
  exact P.load hF hf
theorem St.rload (h : St w B 11 e X Y A cs) {i : Nat} (hi : i < 4) (hf : (Y i).goes = false) :
    Calls Tryz.prog 26 #[.pointer (some ⟨e.rp i, 0, none⟩)] w fun e' w' => e' = .returned (.tuple #[pgV (Y i).pgS, .int .i64 ((Y i).pgE : Nat)]) ∧ Below w.heap.size w w' := by
  obtain ⟨F, hF, _⟩ := Many.look h (i := 6 + i) (by omega)
  rw [tb_pr hi] at hF
  exact rLoad_does hF hf
theorem St.all (P : PgDoes) (h : St w B 11 e X Y A cs) {a : Option Addr} {cap : Nat} (hv : e.vd = .slice a 5 cap) (hf : ∀ i, i < 4 → (X i).Fit11) (p : Pge) (hp : p.ev < 18446744073709551616) :
    Calls Tryz.prog 22 #[.slice a 5 cap, pgV p] w fun e' w' => e' = .returned (.tuple #[.int .i64 ((Pg.allA p (Pg.allN who5 X p 5)).1 : Nat), .int .i64 ((Pg.allA p (Pg.allN who5 X p 5)).2 : Nat)]) ∧ St w' B 11 e (Pg.allD who5 X p 5) Y A cs ∧ Only (Old B w) w w' := by
  refine (P.all h 0 2 4 (by omega) (by omega) a cap (lst5 e.pp) (by rw [tb_d, hv]; rfl) e.pp X (fun i hi => tb_pd hi) who5 (listed5 _) hf (by rw [lst5_length]; decide) p hp).mono ?_
  rintro e' w' ⟨q, hm, ho⟩
  exact ⟨q, hm.congr fun x _ => tb_all_d _ x, ho⟩
theorem St.rall (h : St w B 11 e X Y A cs) {a : Option Addr} {cap : Nat} (hv : e.vr = .slice a 5 cap) (hf : ∀ i, i < 4 → (Y i).Fit11) (p : Pge) (hp : p.ev < 18446744073709551616) :
    Calls Tryz.prog 23 #[.slice a 5 cap, pgV p] w fun e' w' => e' = .returned (.tuple #[.int .i64 ((Pg.allA p (Pg.allN who5 Y p 5)).1 : Nat), .int .i64 ((Pg.allA p (Pg.allN who5 Y p 5)).2 : Nat)]) ∧ St w' B 11 e X (Pg.allD who5 Y p 5) A cs ∧ Only (Old B w) w w' := by
  refine (rAll_does h 1 6 4 (by omega) (by omega) a cap (lst5 e.rp) (by rw [tb_r, hv]; rfl) e.rp Y (fun i hi => tb_pr hi) who5 (listed5 _) hf (by rw [lst5_length]; decide) p hp).mono ?_
  rintro e' w' ⟨q, hm, ho⟩
  exact ⟨q, hm.congr fun x _ => tb_all_r _ x, ho⟩
theorem St.join (P : PgDoes) (h : St w B 11 e X Y A cs) {a : Option Addr} {cap : Nat} (hv : e.vd = .slice a 5 cap) (hf : ∀ i, i < 4 → (X i).goes = false) (v : Nat) (hp : v < 18446744073709551616) :
    Calls Tryz.prog 27 #[.slice a 5 cap, .int .u64 (v : Int)] w fun e' w' => e' = .returned (.tuple #[.string ⟨(Pg.joinL who5 X v 5).toArray⟩, .bool (Pg.joinB who5 X v 5)]) ∧ Below w.heap.size w w' :=
  P.join h 0 2 4 (by omega) (by omega) a cap (lst5 e.pp) (by rw [tb_d, hv]; rfl) e.pp X (fun i hi => tb_pd hi) who5 (listed5 _) hf (by rw [lst5_length]; decide) v hp
theorem St.rjoin (h : St w B 11 e X Y A cs) {a : Option Addr} {cap : Nat} (hv : e.vr = .slice a 5 cap) (hf : ∀ i, i < 4 → (Y i).goes = false) (v : Nat) (hp : v < 18446744073709551616) :
    Calls Tryz.prog 28 #[.slice a 5 cap, .int .u64 (v : Int)] w fun e' w' => e' = .returned (.tuple #[.string ⟨(Pg.joinL who5 Y v 5).toArray⟩, .bool (Pg.joinB who5 Y v 5)]) ∧ Below w.heap.size w w' :=
  rJoin_does h 1 6 4 (by omega) (by omega) a cap (lst5 e.rp) (by rw [tb_r, hv]; rfl) e.rp Y (fun i hi => tb_pr hi) who5 (listed5 _) hf (by rw [lst5_length]; decide) v hp
/-! Sector 2 written and spoilt; a drive dies. -/
theorem take11 (D : Dr) : D.takeE 2 64 = D.reachE 2 := by
  unfold Dr.takeE
  by_cases h : D.reachE 2 = 0
  · rw [if_pos h, if_pos rfl, h]
  · rw [if_neg h]
theorem write11 {D : Dr} (hg : D.goes = false) (t : List UInt8) : D.write 2 t = D.put 2 t := by
  unfold Dr.write Dr.spend
  have h1 : (D.put 2 t).goes = false := hg
  have h2 : (if (D.put 2 t).goes then (D.put 2 t).left - 1 else (D.put 2 t).left) = (D.put 2 t).left := by rw [h1]; rfl
  rw [h2]
theorem St.write {k : Nat} (h : St w B 11 e X Y A cs) {i : Nat} (hi : i < 4) (hI : Inv11 (X i) k) (hk : k ≤ 1000) (s : ByteArray) (hs : s.size = 64) :
    Calls Tryz.prog 17 #[.pointer (some ⟨e.pp i, 0, none⟩), .int .i64 2, .string s] w fun e' w' => e' = .returned (.int .i64 ((X i).reachE 2 : Nat)) ∧ St w' B 11 e (swap1 X i ((X i).wr2 s.data.toList)) Y A cs ∧ Only (Old B w) w w' := by
  refine h.callD hi _ fun F hF => ?_
  have ht := take11 (X i)
  by_cases hr : (X i).reachE 2 = 0
  · have hq := write_yes hF 2 s (by rw [hs]; exact ht.trans hr) (by rw [hI.len]; decide) (by have := hI.lens 2; omega)
    rw [write11 hI.goes] at hq
    rw [hr, show (X i).wr2 s.data.toList = (X i).put 2 s.data.toList from if_pos hr]
    exact hq
  · have hq := write_no hF 2 s (by rw [hs]; exact fun h0 => hr (ht.symm.trans h0))
    rw [hs] at hq
    rw [show (X i).wr2 s.data.toList = X i from if_neg hr, ← ht]
    exact hq.mono fun _ w' ⟨he, hw'⟩ => by
      subst hw'
      exact ⟨he, hF.mono fun _ hk => .inl hk, Only.refl _ _⟩
theorem St.rwrite {k : Nat} (h : St w B 11 e X Y A cs) {i : Nat} (hi : i < 4) (hI : Inv11 (Y i) k) (hk : k ≤ 1000) (s : ByteArray) (hs : s.size = 64) :
    Calls Tryz.prog 18 #[.pointer (some ⟨e.rp i, 0, none⟩), .int .i64 2, .string s] w fun e' w' => e' = .returned (.int .i64 ((Y i).reachE 2 : Nat)) ∧ St w' B 11 e X (swap1 Y i ((Y i).wr2 s.data.toList)) A cs ∧ Only (Old B w) w w' := by
  refine h.callR hi _ fun F hF => ?_
  by_cases hr : (Y i).reachE 2 = 0
  · have hq := rWrite_yes hF hI.goes 2 (by rw [hI.len]; decide) hr (by have := hI.lens 2; omega) s hs
    rw [hr, show (Y i).wr2 s.data.toList = (Y i).put 2 s.data.toList from if_pos hr]
    exact hq
  · rw [show (Y i).wr2 s.data.toList = Y i from if_neg hr]
    exact (rWrite_no hF hI.goes 2 s hr).mono fun _ w' ⟨he, hw'⟩ => by
      subst hw'
      exact ⟨he, hF.mono fun _ hk => .inl hk, Only.refl _ _⟩
theorem St.spoil {k : Nat} (h : St w B 11 e X Y A cs) {i : Nat} (hi : i < 4) (hI : Inv11 (X i) k) :
    Calls Tryz.prog 19 #[.pointer (some ⟨e.pp i, 0, none⟩), .int .i64 2] w fun e' w' => e' = .returned (.int .i64 ((X i).reachE 2 : Nat)) ∧ St w' B 11 e (swap1 X i (X i).sp2) Y A cs ∧ Only (Old B w) w w' := by
  refine h.callD hi _ fun F hF => ?_
  by_cases hr : (X i).reachE 2 = 0
  · have h0 := (Dr.reach_has hr).1
    rw [hr, show (X i).sp2 = (X i).spoil 2 from if_pos hr]
    exact (spoil_yes hF 2 h0 (by rw [hI.len]; decide)).mono fun _ _ ⟨he, hd, ho⟩ => ⟨he, hd.mono fun _ hk => .inl hk, ho⟩
  · rw [show (X i).sp2 = X i from if_neg hr]
    exact (spoil_no hF 2 hr).mono fun _ w' ⟨he, hw'⟩ => by
      subst hw'
      exact ⟨he, hF.mono fun _ hk => .inl hk, Only.refl _ _⟩
theorem St.rspoil {k : Nat} (h : St w B 11 e X Y A cs) {i : Nat} (hi : i < 4) (hI : Inv11 (Y i) k) :
    Calls Tryz.prog 20 #[.pointer (some ⟨e.rp i, 0, none⟩), .int .i64 2] w fun e' w' => e' = .returned (.int .i64 ((Y i).reachE 2 : Nat)) ∧ St w' B 11 e X (swap1 Y i (Y i).sp2) A cs ∧ Only (Old B w) w w' := by
  refine h.callR hi _ fun F hF => ?_
  by_cases hr : (Y i).reachE 2 = 0
  · rw [hr, show (Y i).sp2 = (Y i).spoil 2 from if_pos hr]
    exact (rSpoil_yes hF hI.goes 2 (by rw [hI.len]; decide) hr).mono fun _ _ ⟨he, hd, ho⟩ => ⟨he, hd.mono fun _ hk => .inl hk, ho⟩
  · rw [show (Y i).sp2 = Y i from if_neg hr]
    exact (rSpoil_no hF hI.goes 2 hr).mono fun _ w' ⟨he, hw'⟩ => by
      subst hw'
      exact ⟨he, hF.mono fun _ hk => .inl hk, Only.refl _ _⟩
theorem St.die (h : St w B 11 e X Y A cs) {i : Nat} (hi : i < 4) :
    Calls Tryz.prog 21 #[.pointer (some ⟨e.pp i, 0, none⟩)] w fun e' w' => e' = .returned (.tuple #[]) ∧ St w' B 11 e (swap1 X i (X i).die) Y A cs ∧ Only (Old B w) w w' :=
  h.callD hi _ fun _ hF => (die_any hF).mono fun _ _ ⟨he, hd, ho⟩ => ⟨he, hd.mono fun _ hk => .inl hk, ho⟩
theorem St.gone (h : St w B 11 e X Y A cs) {i : Nat} (hi : i < 4) :
    (St (w.setCell ⟨e.rp i, 3, none⟩ (.bool true)) B 11 e X (swap1 Y i (Y i).die) A cs ∧ Only (Old B w) w (w.setCell ⟨e.rp i, 3, none⟩ (.bool true))) ∧ (∃ v, w.cell? ⟨e.rp i, 3, none⟩ = some (.bool v)) ∧ w.frozen? ⟨e.rp i, 3, none⟩ = false := by
  obtain ⟨F, h1, h2, h3, h4⟩ := h
  have hF := h1 (6 + i) (by omega)
  rw [tb_pr hi] at hF
  obtain ⟨ha, ho⟩ := RefAt.gone hF
  obtain ⟨c3, _, f3, _⟩ := RefAt.flags hF
  have := Many.turned (i := 6 + i) (by omega) h1 h2 h3 h4 (T' := refT (e.rp i) (Y i).die) (RefAt.mono ha fun _ hk => .inl hk) ho
  rw [tb_put_r hi] at this
  exact ⟨this, ⟨_, c3⟩, f3⟩
end
end Go.Proofs.YtlcoibfpebggoaaGreatDoor
