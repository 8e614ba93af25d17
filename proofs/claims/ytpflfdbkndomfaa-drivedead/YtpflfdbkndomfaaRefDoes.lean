/- The walk of does, where both drives are dead: whatever is called, both answer alike, and stay so. -/
import Derived.Test.YtpflfdbkndomfaaRefBoth
import Derived.BigQuiet
namespace Go.Proofs.Ytpflfdbkndomfaa
open Go.RowKit Go.Maps

section
variable {w : World} {B C p rp : Nat} {s : ByteArray}
/-- a call of the list, as the value that it is -/
def actV (kind i : Int) (t : ByteArray) (a : Option Addr) (n cap : Nat) : Value := .agg #[.int .i64 kind, .int .i64 i, .string t, .slice a n cap]
/-- what does makes of both -/
def Done (B C p rp : Nat) (s : ByteArray) (w : World) (kind i : Int) (t : ByteArray) (a : Option Addr) (n cap : Nat) : Prop :=
  Calls Try.prog 23 #[.pointer (some ⟨p, 0, none⟩), .pointer (some ⟨rp, 0, none⟩), actV kind i t a n cap] w fun e w' => e = .returned (.bool true) ∧ Dead2 w' B C p rp s ∧ Turned B C w w'
theorem Turned.of_below {w w' : World} {B C : Nat} (h : Below w.heap.size w w') : Turned B C w w' := Only.of_below h _
theorem boxed (h : Dead2 w B C p rp s) (o : Obj) : Dead2 (w.alloc o) B C p rp s ∧ (∀ n, Dead2 ((w.alloc o).drewN n) B C p rp s) ∧ C ≤ w.heap.size ∧ Turned B C w (w.alloc o) ∧ ∀ n, Turned B C w ((w.alloc o).drewN n) := by
  have b0 : Below w.heap.size w (w.alloc o) := (Below.refl _ w).alloc (Nat.le_refl _) o
  have hC : C ≤ w.heap.size := by obtain ⟨_, _, _, _, _, _, _, _, _, _, _, _, _, h6⟩ := h; exact h6
  exact ⟨h.below b0, fun n => h.below (below_drewN b0 n), hC, .of_below b0, fun n => .of_below (below_drewN b0 n)⟩

set_option maxRecDepth 100000 in
set_option maxHeartbeats 2000000 in
theorem does_0 (h : Dead2 w B C p rp s) (i : Int) (t : ByteArray) (ht : t.size ≤ 100) (a : Option Addr) (n cap : Nat) : Done B C p rp s w 0 i t a n cap := by
  obtain ⟨h1, h2, h3, h4, h5⟩ := boxed h (.cells #[.int .i64 0, .int .i64 i, .string t, .slice a n cap] 47)
  have hf := full_any t ht
  have hw := fun n => (h2 n).write i (fullB t)
  have hr := fun n => (h2 n).rwrite i (fullB t)
  have H : Hid (∀ m, Dead2 ((w.alloc (.cells #[.int .i64 0, .int .i64 i, .string t, .slice a n cap] 47)).drewN m) B C p rp s ∧ Turned B C w ((w.alloc (.cells #[.int .i64 0, .int .i64 i, .string t, .slice a n cap] 47)).drewN m)) := fun m => ⟨h2 m, h5 m⟩
  clear h h1 h2 h3 h4 h5 ht
  unfold Done actV
  go_enter Try.func23, Try.ntmps23
  go_wp2_with fail
  go_quiet (first
    | (go_at_call 11; refine Calls.quiet_of_same (hf _))
    | (go_at_call 10; refine Calls.quiet_of_same (hw _))
    | (go_at_call 20; refine Calls.quiet_of_same (hr _)))
  go_wp2
  go_ret
  exact ⟨rfl, H.out _⟩
set_option maxRecDepth 100000 in
set_option maxHeartbeats 2000000 in
theorem does_2 (h : Dead2 w B C p rp s) (i : Int) (t : ByteArray) (a : Option Addr) (n cap : Nat) : Done B C p rp s w 2 i t a n cap := by
  obtain ⟨h1, h2, h3, h4, h5⟩ := boxed h (.cells #[.int .i64 2, .int .i64 i, .string t, .slice a n cap] 47)
  have hw := h1.read i
  have hr := h1.rread i
  have H : Hid (Dead2 (w.alloc (.cells #[.int .i64 2, .int .i64 i, .string t, .slice a n cap] 47)) B C p rp s ∧ Turned B C w (w.alloc (.cells #[.int .i64 2, .int .i64 i, .string t, .slice a n cap] 47))) := ⟨h1, h4⟩
  clear h h1 h2 h3 h4 h5
  unfold Done actV
  go_enter Try.func23, Try.ntmps23
  go_wp2_with (first
    | (go_at_call 14; refine hw.mono ?_; rintro e w' ⟨rfl, hw'⟩; subst hw')
    | (go_at_call 41; refine hr.mono ?_; rintro e w' ⟨rfl, hw'⟩; subst hw'))
  go_ret
  exact ⟨rfl, H.out⟩
set_option maxRecDepth 100000 in
set_option maxHeartbeats 2000000 in
theorem does_4 (h : Dead2 w B C p rp s) (i : Int) (t : ByteArray) (keep : List Nat) (a : Option Addr) (cap : Nat) (hI : RowI .u8 w a keep.length (fun j => ((keep.getD j 0 : Nat) : Int))) (hlen : keep.length ≤ maxLen) (hb : ∀ j, keep.getD j 0 < 256) (hna : 0 < keep.length → ∀ x, a = some x → x.block < B) : Done B C p rp s w 4 i t a keep.length cap := by
  obtain ⟨n, hn⟩ : ∃ n, n = keep.length := ⟨_, rfl⟩
  obtain ⟨h1, h2, h3, h4, h5⟩ := boxed h (.cells #[.int .i64 4, .int .i64 i, .string t, .slice a keep.length cap] 47)
  have hw := h1.crash keep a cap (hI.below ((Below.refl _ w).alloc (Nat.le_refl _) _)) hlen hb hna
  have H : Hid (C ≤ w.heap.size ∧ Turned B C w (w.alloc (.cells #[.int .i64 4, .int .i64 i, .string t, .slice a n cap] 47))) := by rw [hn]; exact ⟨h3, h4⟩
  rw [← hn] at hw ⊢
  have HL : Hid (w.heap.size < (w.alloc (.cells #[.int .i64 4, .int .i64 i, .string t, .slice a n cap] 47)).heap.size) := by unfold Hid; simp
  have HX : Hid ((w.alloc (.cells #[.int .i64 4, .int .i64 i, .string t, .slice a n cap] 47)).cell? ⟨w.heap.size, 3, none⟩ = some (.slice a n cap)) := by unfold Hid; rw [World.cell?_alloc_mark]; rfl
  clear h h1 h2 h3 h4 h5 hn hI hlen hb hna
  unfold Done actV
  go_enter Try.func23, Try.ntmps23
  go_wp2_with fail
  refine hw.mono ?_
  rintro e w2 ⟨rfl, hd, hb⟩
  have hr := hd.rcrash a n cap
  have H2 : Hid (Turned B C w w2) := H.out.2.then hb
  have hbox : w2.cell? ⟨w.heap.size, 3, none⟩ = some (.slice a n cap) := (World.cell?_of_block (a := ⟨w.heap.size, 3, none⟩) (hb.block w.heap.size HL.out (fun hk => absurd hk.2 (Nat.not_lt.2 H.out.1)))).trans HX.out
  clear hw hd hb
  go_wp2_with fail
  refine hr.mono ?_
  rintro e w3 ⟨rfl, hd, hb⟩
  have H3 : Hid (Dead2 w3 B C p rp s ∧ Turned B C w w3) := ⟨hd, H2.out.then hb⟩
  clear hr hd hb
  go_wp2
  go_ret
  exact ⟨rfl, H3.out⟩
set_option maxRecDepth 100000 in
set_option maxHeartbeats 2000000 in
theorem does_1 (h : Dead2 w B C p rp s) (i : Int) (t : ByteArray) (a : Option Addr) (n cap : Nat) : Done B C p rp s w 1 i t a n cap := by
  obtain ⟨h1, h2, h3, h4, h5⟩ := boxed h (.cells #[.int .i64 1, .int .i64 i, .string t, .slice a n cap] 47)
  have hw := fun n => (h2 n).write i t
  have hr := fun n => (h2 n).rwrite i t
  have H : Hid (∀ m, Dead2 ((w.alloc (.cells #[.int .i64 1, .int .i64 i, .string t, .slice a n cap] 47)).drewN m) B C p rp s ∧ Turned B C w ((w.alloc (.cells #[.int .i64 1, .int .i64 i, .string t, .slice a n cap] 47)).drewN m)) := fun m => ⟨h2 m, h5 m⟩
  clear h h1 h2 h3 h4 h5
  unfold Done actV
  go_enter Try.func23, Try.ntmps23
  go_wp2_with fail
  go_quiet (first
    | (go_at_call 10; refine Calls.quiet_of_same (hw _))
    | (go_at_call 20; refine Calls.quiet_of_same (hr _)))
  go_wp2
  go_ret
  exact ⟨rfl, H.out _⟩
set_option maxRecDepth 100000 in
set_option maxHeartbeats 2000000 in
theorem does_5 (h : Dead2 w B C p rp s) (i : Int) (t : ByteArray) (a : Option Addr) (n cap : Nat) : Done B C p rp s w 5 i t a n cap := by
  obtain ⟨h1, h2, h3, h4, h5⟩ := boxed h (.cells #[.int .i64 5, .int .i64 i, .string t, .slice a n cap] 47)
  have hw := fun n => (h2 n).spoil i
  have hr := fun n => (h2 n).rspoil i
  have H : Hid (∀ m, Dead2 ((w.alloc (.cells #[.int .i64 5, .int .i64 i, .string t, .slice a n cap] 47)).drewN m) B C p rp s ∧ Turned B C w ((w.alloc (.cells #[.int .i64 5, .int .i64 i, .string t, .slice a n cap] 47)).drewN m)) := fun m => ⟨h2 m, h5 m⟩
  clear h h1 h2 h3 h4 h5
  unfold Done actV
  go_enter Try.func23, Try.ntmps23
  go_wp2_with fail
  go_quiet (first
    | (go_at_call 24; refine Calls.quiet_of_same (hw _))
    | (go_at_call 43; refine Calls.quiet_of_same (hr _)))
  go_wp2
  go_ret
  exact ⟨rfl, H.out _⟩
set_option maxRecDepth 100000 in
set_option maxHeartbeats 2000000 in
theorem does_6 (h : Dead2 w B C p rp s) (i : Int) (t : ByteArray) (ht : t.size ≤ 100) (a : Option Addr) (n cap : Nat) : Done B C p rp s w 6 i t a n cap := by
  obtain ⟨h1, h2, h3, h4, h5⟩ := boxed h (.cells #[.int .i64 6, .int .i64 i, .string t, .slice a n cap] 47)
  have hf := full_any t ht
  have hw := fun n => (h2 n).change i (fullB t)
  have hr := fun n => (h2 n).rchange i (fullB t)
  have H : Hid (∀ m, Dead2 ((w.alloc (.cells #[.int .i64 6, .int .i64 i, .string t, .slice a n cap] 47)).drewN m) B C p rp s ∧ Turned B C w ((w.alloc (.cells #[.int .i64 6, .int .i64 i, .string t, .slice a n cap] 47)).drewN m)) := fun m => ⟨h2 m, h5 m⟩
  clear h h1 h2 h3 h4 h5 ht
  unfold Done actV
  go_enter Try.func23, Try.ntmps23
  go_wp2_with fail
  go_quiet (first
    | (go_at_call 11; refine Calls.quiet_of_same (hf _))
    | (go_at_call 25; refine Calls.quiet_of_same (hw _))
    | (go_at_call 44; refine Calls.quiet_of_same (hr _)))
  go_wp2
  go_ret
  exact ⟨rfl, H.out _⟩
set_option maxRecDepth 100000 in
set_option maxHeartbeats 2000000 in
theorem does_3 (h : Dead2 w B C p rp s) (i : Int) (t : ByteArray) (a : Option Addr) (n cap : Nat) : Done B C p rp s w 3 i t a n cap := by
  obtain ⟨h1, h2, h3, h4, h5⟩ := boxed h (.cells #[.int .i64 3, .int .i64 i, .string t, .slice a n cap] 47)
  have hw := h1.flush
  have hr := h1.rflush
  have H : Hid (Dead2 (w.alloc (.cells #[.int .i64 3, .int .i64 i, .string t, .slice a n cap] 47)) B C p rp s ∧ Turned B C w (w.alloc (.cells #[.int .i64 3, .int .i64 i, .string t, .slice a n cap] 47))) := ⟨h1, h4⟩
  clear h h1 h2 h3 h4 h5
  unfold Done actV
  go_enter Try.func23, Try.ntmps23
  go_wp2_with (first
    | (go_at_call 12; refine hw.mono ?_; rintro e w' ⟨rfl, hw'⟩; subst hw')
    | (go_at_call 21; refine hr.mono ?_; rintro e w' ⟨rfl, hw'⟩; subst hw'))
  go_ret
  exact ⟨rfl, H.out⟩
set_option maxRecDepth 100000 in
set_option maxHeartbeats 2000000 in
theorem does_8 (h : Dead2 w B C p rp s) (i : Int) (t : ByteArray) (a : Option Addr) (n cap : Nat) : Done B C p rp s w 8 i t a n cap := by
  obtain ⟨h1, h2, h3, h4, h5⟩ := boxed h (.cells #[.int .i64 8, .int .i64 i, .string t, .slice a n cap] 47)
  have hw := h1.safe i
  have hr := h1.rsafe i
  obtain ⟨x, hx⟩ : ∃ x, x = safeT s i := ⟨_, rfl⟩
  obtain ⟨c, hc⟩ : ∃ c, c = safeC i := ⟨_, rfl⟩
  rw [← hx, ← hc] at hw hr
  have hcc : ((c : Int) == c) = true := beq_self_eq_true _
  clear hx hc
  have H : Hid (Dead2 (w.alloc (.cells #[.int .i64 8, .int .i64 i, .string t, .slice a n cap] 47)) B C p rp s ∧ Turned B C w (w.alloc (.cells #[.int .i64 8, .int .i64 i, .string t, .slice a n cap] 47))) := ⟨h1, h4⟩
  clear h h1 h2 h3 h4 h5
  unfold Done actV
  go_enter Try.func23, Try.ntmps23
  go_wp2_with (first
    | (go_at_call 15; refine hw.mono ?_; rintro e w' ⟨rfl, hw'⟩; subst hw')
    | (go_at_call 46; refine hr.mono ?_; rintro e w' ⟨rfl, hw'⟩; subst hw'))
  go_ret
  exact ⟨rfl, H.out⟩
set_option maxRecDepth 100000 in
set_option maxHeartbeats 2000000 in
theorem does_7 (h : Dead2 w B C p rp s) (i : Int) (t : ByteArray) (a : Option Addr) (n cap : Nat) : Done B C p rp s w 7 i t a n cap := by
  obtain ⟨h1, h2, h3, h4, h5⟩ := boxed h (.cells #[.int .i64 7, .int .i64 i, .string t, .slice a n cap] 47)
  have hw := h1.die
  have H : Hid (Turned B C w (w.alloc (.cells #[.int .i64 7, .int .i64 i, .string t, .slice a n cap] 47))) := h4
  clear h h1 h2 h3 h4 h5
  unfold Done actV
  go_enter Try.func23, Try.ntmps23
  go_wp2_with fail
  refine hw.mono ?_
  rintro e w2 ⟨rfl, hd, hb⟩
  obtain ⟨hc3, hf3⟩ := hd.goneAt
  have H3 : Hid (Dead2 (w2.setCell ⟨rp, 3, none⟩ (.bool true)) B C p rp s ∧ Turned B C w (w2.setCell ⟨rp, 3, none⟩ (.bool true))) := ⟨hd.gone.1, (H.out.then hb).then hd.gone.2⟩
  clear hw hd hb
  go_wp2
  go_ret
  exact ⟨rfl, H3.out⟩
set_option maxRecDepth 100000 in
set_option maxHeartbeats 2000000 in
theorem does_9 (h : Dead2 w B C p rp s) (i : Int) (hi : i ≤ 9223372036854775807) (t : ByteArray) (a : Option Addr) (n cap : Nat) : Done B C p rp s w 9 i t a n cap := by
  obtain ⟨h1, h2, h3, h4, h5⟩ := boxed h (.cells #[.int .i64 9, .int .i64 i, .string t, .slice a n cap] 47)
  have hw := h1.off i hi
  have H : Hid (C ≤ w.heap.size ∧ Turned B C w (w.alloc (.cells #[.int .i64 9, .int .i64 i, .string t, .slice a n cap] 47))) := ⟨h3, h4⟩
  have HL : Hid (w.heap.size < (w.alloc (.cells #[.int .i64 9, .int .i64 i, .string t, .slice a n cap] 47)).heap.size) := by unfold Hid; simp
  have HX : Hid ((w.alloc (.cells #[.int .i64 9, .int .i64 i, .string t, .slice a n cap] 47)).cell? ⟨w.heap.size, 1, none⟩ = some (.int .i64 i)) := by unfold Hid; rw [World.cell?_alloc_mark]; rfl
  clear h h1 h2 h3 h4 h5 hi
  unfold Done actV
  go_enter Try.func23, Try.ntmps23
  go_wp2_with fail
  refine hw.mono ?_
  rintro e w2 ⟨rfl, hd, hb⟩
  have hr := hd.roff i
  have H2 : Hid (Turned B C w w2) := H.out.2.then hb
  have hbox : w2.cell? ⟨w.heap.size, 1, none⟩ = some (.int .i64 i) := (World.cell?_of_block (a := ⟨w.heap.size, 1, none⟩) (hb.block w.heap.size HL.out (fun hk => absurd hk.2 (Nat.not_lt.2 H.out.1)))).trans HX.out
  clear hw hd hb
  go_wp2_with fail
  refine hr.mono ?_
  rintro e w3 ⟨rfl, hd, hb⟩
  have H3 : Hid (Dead2 w3 B C p rp s ∧ Turned B C w w3) := ⟨hd, H2.out.then hb⟩
  clear hr hd hb
  go_wp2
  go_ret
  exact ⟨rfl, H3.out⟩
set_option maxRecDepth 100000 in
set_option maxHeartbeats 2000000 in
theorem does_else (h : Dead2 w B C p rp s) (kind : Int) (hk : ∀ j : Int, 0 ≤ j → j ≤ 9 → kind ≠ j) (i : Int) (t : ByteArray) (a : Option Addr) (n cap : Nat) : Done B C p rp s w kind i t a n cap := by
  obtain ⟨h1, h2, h3, h4, h5⟩ := boxed h (.cells #[.int .i64 kind, .int .i64 i, .string t, .slice a n cap] 47)
  have k0 : (kind == 0) = false := by rw [beq_eq_false_iff_ne]; exact hk 0 (by decide) (by decide)
  have k1 : (kind == 1) = false := by rw [beq_eq_false_iff_ne]; exact hk 1 (by decide) (by decide)
  have k2 : (kind == 2) = false := by rw [beq_eq_false_iff_ne]; exact hk 2 (by decide) (by decide)
  have k3 : (kind == 3) = false := by rw [beq_eq_false_iff_ne]; exact hk 3 (by decide) (by decide)
  have k4 : (kind == 4) = false := by rw [beq_eq_false_iff_ne]; exact hk 4 (by decide) (by decide)
  have k5 : (kind == 5) = false := by rw [beq_eq_false_iff_ne]; exact hk 5 (by decide) (by decide)
  have k6 : (kind == 6) = false := by rw [beq_eq_false_iff_ne]; exact hk 6 (by decide) (by decide)
  have k7 : (kind == 7) = false := by rw [beq_eq_false_iff_ne]; exact hk 7 (by decide) (by decide)
  have k8 : (kind == 8) = false := by rw [beq_eq_false_iff_ne]; exact hk 8 (by decide) (by decide)
  have k9 : (kind == 9) = false := by rw [beq_eq_false_iff_ne]; exact hk 9 (by decide) (by decide)
  have H : Hid (Dead2 (w.alloc (.cells #[.int .i64 kind, .int .i64 i, .string t, .slice a n cap] 47)) B C p rp s ∧ Turned B C w (w.alloc (.cells #[.int .i64 kind, .int .i64 i, .string t, .slice a n cap] 47))) := ⟨h1, h4⟩
  clear h h1 h2 h3 h4 h5 hk
  unfold Done actV
  go_enter Try.func23, Try.ntmps23
  go_wp2
  go_ret
  exact ⟨rfl, H.out⟩
end
end Go.Proofs.Ytpflfdbkndomfaa
