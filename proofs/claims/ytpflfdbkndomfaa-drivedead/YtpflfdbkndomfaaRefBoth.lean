/- Two drives in one memory: the program's and the document's own, both dead; what each call makes of them. -/
import Derived.Test.YtpflfdbkndomfaaRefKeep
import Derived.Test.YtpflfdbkndomfaaDrvBase
namespace Go.Proofs.Ytpflfdbkndomfaa
open Go.RowKit Go.Maps

set_option maxHeartbeats 400000 in
theorem change_no {w : World} {p : Nat} {D : Dr} {F : Nat → Prop} (h : DriveAt w p D F) (i : Int) (s : ByteArray) (hr : D.takeE i s.size ≠ 0) :
    Calls Try.prog 25 #[.pointer (some ⟨p, 0, none⟩), .int .i64 i, .string s] w fun e w' => e = .returned (.int .i64 (D.takeE i s.size : Nat)) ∧ w' = w := by
  have hc := takes_any h i s
  have hle := takeE_le D i s.size
  obtain ⟨r, er⟩ : ∃ r, r = D.takeE i s.size := ⟨_, rfl⟩
  rw [← er] at hc hr hle ⊢
  have hne : ((r : Int) == 0) = false := by rw [beq_eq_false_iff_ne]; omega
  clear er
  go_enter Try.func25, Try.ntmps25
  go_wp2_with fail
  refine hc.mono ?_
  rintro e w' ⟨rfl, rfl⟩
  go_wp2
  go_ret
  exact ⟨rfl, rfl⟩

/-- what is safe on both: the third of five sectors -/
def S5 (s : ByteArray) : List ByteArray := (List.replicate 5 blankB).set 2 s
theorem S5_length (s : ByteArray) : (S5 s).length = 5 := by simp [S5]
structure DeadD (D : Dr) (s : ByteArray) : Prop where
  dead : D.dead = true
  none : ∀ i, D.writes i = []
  safe : D.safe = (S5 s).map (·.data.toList)
theorem DeadD.runs {D : Dr} {s : ByteArray} (h : DeadD D s) : D.runsE = 40 := by unfold Dr.runsE; rw [h.dead]; rfl
theorem DeadD.reach {D : Dr} {s : ByteArray} (h : DeadD D s) (i : Int) : D.reachE i = 40 := by unfold Dr.reachE; rw [h.runs]; rfl
theorem DeadD.take {D : Dr} {s : ByteArray} (h : DeadD D s) (i : Int) (m : Nat) : D.takeE i m = 40 := by unfold Dr.takeE; rw [h.reach]; rfl
theorem DeadD.busy {D : Dr} {s : ByteArray} (h : DeadD D s) : D.busy = [] := by
  unfold Dr.busy
  rw [List.filter_eq_nil_iff]
  intro i _
  rw [h.none i]; simp
theorem DeadD.crash {D : Dr} {s : ByteArray} (h : DeadD D s) (keep : List Nat) : DeadD (D.crash keep) s :=
  ⟨h.dead, fun _ => rfl, by unfold Dr.crash Dr.settle; rw [h.busy]; exact h.safe⟩
theorem DeadD.off {D : Dr} {s : ByteArray} (h : DeadD D s) (a : Int) : DeadD (D.off a) s := ⟨h.dead, h.none, h.safe⟩
theorem DeadD.die {D : Dr} {s : ByteArray} (h : DeadD D s) : DeadD D.die s := ⟨rfl, h.none, h.safe⟩
theorem DeadD.len {D : Dr} {s : ByteArray} (h : DeadD D s) : D.safe.length = 5 := by rw [h.safe, List.length_map, S5_length]

/-- what may turn: what lay there when both had died, from B on -/
def Turned (B C : Nat) (w w' : World) : Prop := Only (fun k => B ≤ k ∧ k < C) w w'
/-- Both drives, dead. -/
def Dead2 (w : World) (B C p rp : Nat) (s : ByteArray) : Prop := ∃ (D : Dr) (F : Nat → Prop) (vS vW vP : Value) (cut : Bool) (left : Int),
  DriveAt w p D F ∧ (∀ k, F k → B ≤ k ∧ k < C) ∧ RefIn w B rp vS vW vP (S5 s) (List.replicate 5 nilS) (List.replicate 5 false) true cut left ∧ (∀ k, F k → ¬ RFoot rp vS vW vP k) ∧ DeadD D s ∧ rp < C ∧ C ≤ w.heap.size
section
variable {w : World} {B C p rp : Nat} {s : ByteArray}
theorem Dead2.below (h : Dead2 w B C p rp s) {w' : World} (hb : Below w.heap.size w w') : Dead2 w' B C p rp s := by
  obtain ⟨D, F, vS, vW, vP, cut, left, h1, h2, h3, h4, h5, h6⟩ := h
  exact ⟨D, F, vS, vW, vP, cut, left, h1.below hb, h2, h3.only (Only.of_below hb (fun _ => False)) (fun _ _ hf => hf), h4, h5, h6.1, Nat.le_trans h6.2 hb.size⟩
theorem Dead2.write (h : Dead2 w B C p rp s) (i : Int) (t : ByteArray) : Calls Try.prog 10 #[.pointer (some ⟨p, 0, none⟩), .int .i64 i, .string t] w fun e w' => e = .returned (.int .i64 40) ∧ w' = w := by
  obtain ⟨D, F, vS, vW, vP, cut, left, h1, h2, h3, h4, h5, h6⟩ := h
  have := write_no h1 i t (by rw [h5.take]; decide)
  rwa [h5.take] at this
theorem Dead2.change (h : Dead2 w B C p rp s) (i : Int) (t : ByteArray) : Calls Try.prog 25 #[.pointer (some ⟨p, 0, none⟩), .int .i64 i, .string t] w fun e w' => e = .returned (.int .i64 40) ∧ w' = w := by
  obtain ⟨D, F, vS, vW, vP, cut, left, h1, h2, h3, h4, h5, h6⟩ := h
  have := change_no h1 i t (by rw [h5.take]; decide)
  rwa [h5.take] at this
theorem Dead2.read (h : Dead2 w B C p rp s) (i : Int) : Calls Try.prog 14 #[.pointer (some ⟨p, 0, none⟩), .int .i64 i] w fun e w' => e = .returned (.tuple #[.string ⟨#[]⟩, .int .i64 40]) ∧ w' = w := by
  obtain ⟨D, F, vS, vW, vP, cut, left, h1, h2, h3, h4, h5, h6⟩ := h
  have := read_reach h1 i (by rw [h5.reach]; decide)
  rwa [h5.reach] at this
theorem Dead2.flush (h : Dead2 w B C p rp s) : Calls Try.prog 12 #[.pointer (some ⟨p, 0, none⟩)] w fun e w' => e = .returned (.int .i64 40) ∧ w' = w := by
  obtain ⟨D, F, vS, vW, vP, cut, left, h1, h2, h3, h4, h5, h6⟩ := h
  have := flush_no h1 (by rw [h5.runs]; decide)
  rwa [h5.runs] at this
theorem Dead2.spoil (h : Dead2 w B C p rp s) (i : Int) : Calls Try.prog 24 #[.pointer (some ⟨p, 0, none⟩), .int .i64 i] w fun e w' => e = .returned (.int .i64 40) ∧ w' = w := by
  obtain ⟨D, F, vS, vW, vP, cut, left, h1, h2, h3, h4, h5, h6⟩ := h
  have := spoil_no h1 i (by rw [h5.reach]; decide)
  rwa [h5.reach] at this
theorem Dead2.dead (h : Dead2 w B C p rp s) : Calls Try.prog 26 #[.pointer (some ⟨p, 0, none⟩)] w fun e w' => e = .returned (.bool true) ∧ w' = w := by
  obtain ⟨D, F, vS, vW, vP, cut, left, h1, h2, h3, h4, h5, h6⟩ := h
  have := dead_any h1
  rwa [h5.dead] at this
theorem txt_of (s : ByteArray) : txt s.data.toList = s := by cases s; rfl
/-- what Safe(i) answers of both -/
def safeT (s : ByteArray) (i : Int) : ByteArray := if 0 ≤ i ∧ i < 5 then (S5 s).getD i.toNat ByteArray.empty else ⟨#[]⟩
def safeC (i : Int) : Nat := if 0 ≤ i ∧ i < 5 then 0 else 70
theorem Dead2.safe (h : Dead2 w B C p rp s) (i : Int) : Calls Try.prog 15 #[.pointer (some ⟨p, 0, none⟩), .int .i64 i] w fun e w' => e = .returned (.tuple #[.string (safeT s i), .int .i64 (safeC i : Nat)]) ∧ w' = w := by
  obtain ⟨D, F, vS, vW, vP, cut, left, h1, h2, h3, h4, h5, h6⟩ := h
  have := safe_any h1 i
  have e1 : D.hasB i = decide (0 ≤ i ∧ i < 5) := by unfold Dr.hasB; rw [h5.len]; simp
  unfold Dr.safeE Dr.safeS at this
  rw [e1] at this
  unfold safeT safeC
  by_cases hi : 0 ≤ i ∧ i < 5
  · rw [if_pos hi, if_pos hi]
    rw [if_pos (by simpa using hi), if_pos (by simpa using hi)] at this
    have hk : i.toNat < (S5 s).length := by rw [S5_length]; omega
    have e2 : txt (D.safe.getD i.toNat []) = (S5 s).getD i.toNat ByteArray.empty := by
      rw [h5.safe, List.getD_eq_getElem?_getD, List.getD_eq_getElem?_getD, List.getElem?_map, List.getElem?_eq_getElem hk]
      exact txt_of _
    rwa [e2] at this
  · rw [if_neg hi, if_neg hi]
    rw [if_neg (by simpa using hi), if_neg (by simpa using hi)] at this
    exact this
theorem Dead2.rsafe (h : Dead2 w B C p rp s) (i : Int) : Calls Try.prog 46 #[.pointer (some ⟨rp, 0, none⟩), .int .i64 i] w fun e w' => e = .returned (.tuple #[.string (safeT s i), .int .i64 (safeC i : Nat)]) ∧ w' = w := by
  obtain ⟨D, F, vS, vW, vP, cut, left, h1, h2, h3, h4, h5, h6⟩ := h
  unfold safeT safeC
  by_cases hi : 0 ≤ i ∧ i < 5
  · rw [if_pos hi, if_pos hi]
    obtain ⟨k, rfl⟩ : ∃ k : Nat, i = (k : Int) := ⟨i.toNat, by omega⟩
    exact refSafe_yes h3 k (by rw [S5_length]; omega)
  · rw [if_neg hi, if_neg hi]
    exact refSafe_no h3 i (by rw [S5_length]; omega) (by rw [S5_length]; omega)
theorem Dead2.rwrite (h : Dead2 w B C p rp s) (i : Int) (t : ByteArray) : Calls Try.prog 20 #[.pointer (some ⟨rp, 0, none⟩), .int .i64 i, .string t] w fun e w' => e = .returned (.int .i64 40) ∧ w' = w := by
  obtain ⟨D, F, vS, vW, vP, cut, left, h1, h2, h3, h4, h5, h6⟩ := h
  exact refWrite_dead h3 i t
theorem Dead2.rchange (h : Dead2 w B C p rp s) (i : Int) (t : ByteArray) : Calls Try.prog 44 #[.pointer (some ⟨rp, 0, none⟩), .int .i64 i, .string t] w fun e w' => e = .returned (.int .i64 40) ∧ w' = w := by
  obtain ⟨D, F, vS, vW, vP, cut, left, h1, h2, h3, h4, h5, h6⟩ := h
  exact refChange_dead h3 i t
theorem Dead2.rread (h : Dead2 w B C p rp s) (i : Int) : Calls Try.prog 41 #[.pointer (some ⟨rp, 0, none⟩), .int .i64 i] w fun e w' => e = .returned (.tuple #[.string ⟨#[]⟩, .int .i64 40]) ∧ w' = w := by
  obtain ⟨D, F, vS, vW, vP, cut, left, h1, h2, h3, h4, h5, h6⟩ := h
  exact refRead_dead h3 i
theorem Dead2.rflush (h : Dead2 w B C p rp s) : Calls Try.prog 21 #[.pointer (some ⟨rp, 0, none⟩)] w fun e w' => e = .returned (.int .i64 40) ∧ w' = w := by
  obtain ⟨D, F, vS, vW, vP, cut, left, h1, h2, h3, h4, h5, h6⟩ := h
  exact refFlush_dead h3
theorem Dead2.rspoil (h : Dead2 w B C p rp s) (i : Int) : Calls Try.prog 43 #[.pointer (some ⟨rp, 0, none⟩), .int .i64 i] w fun e w' => e = .returned (.int .i64 40) ∧ w' = w := by
  obtain ⟨D, F, vS, vW, vP, cut, left, h1, h2, h3, h4, h5, h6⟩ := h
  exact refSpoil_dead h3 i
/-- a call of the program's drive turns just its own blocks .. -/
theorem two_d {D' : Dr} {F : Nat → Prop} {vS vW vP : Value} {cut : Bool} {left : Int} {w' : World} (h2 : ∀ k, F k → B ≤ k ∧ k < C) (h3 : RefIn w B rp vS vW vP (S5 s) (List.replicate 5 nilS) (List.replicate 5 false) true cut left) (h4 : ∀ k, F k → ¬ RFoot rp vS vW vP k) (hd : DriveAt w' p D' F) (ho : Only F w w') (hD : DeadD D' s) (h6 : rp < C ∧ C ≤ w.heap.size) : Dead2 w' B C p rp s :=
  ⟨D', F, vS, vW, vP, cut, left, hd, h2, h3.only ho (fun k hk hf => h4 k hf hk), h4, hD, h6.1, Nat.le_trans h6.2 ho.size⟩
theorem Dead2.crash (h : Dead2 w B C p rp s) (keep : List Nat) (a : Option Addr) (cap : Nat) (hI : RowI .u8 w a keep.length (fun j => ((keep.getD j 0 : Nat) : Int))) (hlen : keep.length ≤ maxLen) (hb : ∀ j, keep.getD j 0 < 256) (hna : 0 < keep.length → ∀ x, a = some x → x.block < B) :
    Calls Try.prog 13 #[.pointer (some ⟨p, 0, none⟩), .slice a keep.length cap] w fun e w' => e = .returned (.tuple #[]) ∧ Dead2 w' B C p rp s ∧ Turned B C w w' := by
  obtain ⟨D, F, vS, vW, vP, cut, left, h1, h2, h3, h4, h5, h6⟩ := h
  exact (crash_any h1 (fun i => by rw [h5.none i]; exact Nat.zero_le _) keep a cap hI hlen hb (fun h0 x hx hF => by have := hna h0 x hx; have := (h2 _ hF).1; omega)).mono fun _ _ ⟨he, hd, ho⟩ => ⟨he, two_d h2 h3 h4 hd ho (h5.crash keep) h6, ho.mono h2⟩
theorem Dead2.off (h : Dead2 w B C p rp s) (a : Int) (ha : a ≤ 9223372036854775807) :
    Calls Try.prog 27 #[.pointer (some ⟨p, 0, none⟩), .int .i64 a] w fun e w' => e = .returned (.tuple #[]) ∧ Dead2 w' B C p rp s ∧ Turned B C w w' := by
  obtain ⟨D, F, vS, vW, vP, cut, left, h1, h2, h3, h4, h5, h6⟩ := h
  exact (off_any h1 a ha).mono fun _ _ ⟨he, hd, ho⟩ => ⟨he, two_d h2 h3 h4 hd ho (h5.off a) h6, ho.mono h2⟩
theorem Dead2.die (h : Dead2 w B C p rp s) :
    Calls Try.prog 22 #[.pointer (some ⟨p, 0, none⟩)] w fun e w' => e = .returned (.tuple #[]) ∧ Dead2 w' B C p rp s ∧ Turned B C w w' := by
  obtain ⟨D, F, vS, vW, vP, cut, left, h1, h2, h3, h4, h5, h6⟩ := h
  exact (die_any h1).mono fun _ _ ⟨he, hd, ho⟩ => ⟨he, two_d h2 h3 h4 hd ho h5.die h6, ho.mono h2⟩
/-- .. so does one of the document's own -/
theorem two_r {D : Dr} {F : Nat → Prop} {vS vW vP : Value} {cut' : Bool} {left' : Int} {w' : World} (h1 : DriveAt w p D F) (h2 : ∀ k, F k → B ≤ k ∧ k < C) (h4 : ∀ k, F k → ¬ RFoot rp vS vW vP k) (h3 : RefIn w' B rp vS vW vP (S5 s) (List.replicate 5 nilS) (List.replicate 5 false) true cut' left') (ho : Only (One rp) w w') (hD : DeadD D s) (h6 : rp < C ∧ C ≤ w.heap.size) : Dead2 w' B C p rp s :=
  ⟨D, F, vS, vW, vP, cut', left', h1.only ho (fun k _ hf e => h4 k hf (.inl e)), h2, h3, h4, hD, h6.1, Nat.le_trans h6.2 ho.size⟩
theorem Dead2.rcrash (h : Dead2 w B C p rp s) (a : Option Addr) (n cap : Nat) :
    Calls Try.prog 42 #[.pointer (some ⟨rp, 0, none⟩), .slice a n cap] w fun e w' => e = .returned (.tuple #[]) ∧ Dead2 w' B C p rp s ∧ Turned B C w w' := by
  obtain ⟨D, F, vS, vW, vP, cut, left, h1, h2, h3, h4, h5, h6⟩ := h
  exact (refCrash_idle h3 a n cap).mono fun _ _ ⟨he, hr, ho⟩ => ⟨he, two_r h1 h2 h4 hr ho h5 h6, ho.mono (fun k hk => by rw [show k = rp from hk]; exact ⟨h3.lo, h6.1⟩)⟩
theorem Dead2.roff (h : Dead2 w B C p rp s) (a : Int) :
    Calls Try.prog 45 #[.pointer (some ⟨rp, 0, none⟩), .int .i64 a] w fun e w' => e = .returned (.tuple #[]) ∧ Dead2 w' B C p rp s ∧ Turned B C w w' := by
  obtain ⟨D, F, vS, vW, vP, cut, left, h1, h2, h3, h4, h5, h6⟩ := h
  exact (refOffCall h3 a).mono fun _ _ ⟨he, hr, ho⟩ => ⟨he, two_r h1 h2 h4 hr ho h5 h6, ho.mono (fun k hk => by rw [show k = rp from hk]; exact ⟨h3.lo, h6.1⟩)⟩
theorem Dead2.goneAt (h : Dead2 w B C p rp s) : w.cell? ⟨rp, 3, none⟩ = some (.bool true) ∧ w.frozen? ⟨rp, 3, none⟩ = false := by
  obtain ⟨D, F, vS, vW, vP, cut, left, h1, h2, h3, h4, h5, h6⟩ := h
  obtain ⟨_, _, _, c3, _, _, cf⟩ := h3.cell
  exact ⟨c3, cf 3⟩
theorem Dead2.gone (h : Dead2 w B C p rp s) : Dead2 (w.setCell ⟨rp, 3, none⟩ (.bool true)) B C p rp s ∧ Turned B C w (w.setCell ⟨rp, 3, none⟩ (.bool true)) := by
  obtain ⟨D, F, vS, vW, vP, cut, left, h1, h2, h3, h4, h5, h6⟩ := h
  obtain ⟨g1, g2⟩ := turn1 (j := 3) (v := .bool true) h3.self
  exact ⟨two_r h1 h2 h4 (h3.turn g1 (by rw [g2]; rfl)) g1 h5 h6, g1.mono (fun k hk => by rw [show k = rp from hk]; exact ⟨h3.lo, h6.1⟩)⟩
end
end Go.Proofs.Ytpflfdbkndomfaa
