/- Unpacking: the walk of pack.Decode. -/
import Derived.Test.YtgkhnfchohcjeaaPackIter
import Derived.Test.YtgkhnfchohcjeaaKitRound
import Derived.Lib.JoinLaws
namespace Go.Proofs.Ytgkhnfchohcjeaa
open Go.RowKit Go.Shelf
attribute [local go_sem] Oper.semAt_some

/-- what pack.Decode answers -/
def DecAns (s : List UInt8) (ws : List Int) (w : World) (e : Ending) (w' : World) : Prop :=
  ∃ a cap, e = .returned (.tuple #[.slice a (Pk.dec s ws).length cap, .int .i64 (Pk.decE s ws)]) ∧ RowI .u64 w' a (Pk.dec s ws).length (fun j => ((Pk.dec s ws).getD j 0 : Nat)) ∧ Below w.heap.size w w'

set_option maxRecDepth 100000 in
set_option maxHeartbeats 400000 in
theorem Decode_size (s : ByteArray) (ws : List Int) (hok : Pk.okW ws = false) (hlen : ws.length ≤ maxLen) (b : Option Addr) (cb : Nat) (w : World)
    (hb : RowI .i64 w b ws.length (fun j => ws.getD j 0)) :
    Calls Try.prog 69 #[.string s, .slice b ws.length cb] w (DecAns s.data.toList ws w) := by
  have hE1 := Pk.sizeE_no hok
  have E1 : Hid (Pk.decE s.data.toList ws = 1) := Pk.decE_size hok
  have E2 : Hid (Pk.dec s.data.toList ws = []) := Pk.dec_size hok
  go_enter Try.func69, Try.ntmps69
  go_wp2_with fail
  refine (Size_any ws hlen b cb _ (hb.below ((Below.refl _ w).alloc (Nat.le_refl _) _))).mono ?_
  rintro e w' ⟨rfl, rfl⟩
  rw [hE1]
  go_wp2
  go_ret2
  exact ⟨none, 0, ret_two (by rw [E2.out]; rfl) (by rw [E1.out]; rfl), by rw [E2.out]; exact RowI.nil _ _ _ _, (Below.refl _ w).alloc (Nat.le_refl _) _⟩

set_option maxRecDepth 100000 in
set_option maxHeartbeats 400000 in
theorem Decode_short (s : ByteArray) (ws : List Int) (hok : Pk.okW ws = true) (hne : s.size ≠ Pk.offs ws ws.length) (_hs : s.size ≤ maxLen) (b : Option Addr) (cb : Nat) (w : World)
    (hb : RowI .i64 w b ws.length (fun j => ws.getD j 0)) :
    Calls Try.prog 69 #[.string s, .slice b ws.length cb] w (DecAns s.data.toList ws w) := by
  have hE1 := Pk.sizeE_yes hok
  have hN1 := Pk.sizeN_yes hok
  have h64 := Pk.okW_len hok
  have hoffs := Pk.offs_le hok (Nat.le_refl _)
  unfold maxLen at _hs
  have E1 : Hid (Pk.decE s.data.toList ws = 31) := Pk.decE_short hok (by simpa using hne)
  have E2 : Hid (Pk.dec s.data.toList ws = []) := Pk.dec_short (by simpa using hne)
  have hne2 : ((s.size : Int) == (Pk.offs ws ws.length : Nat)) = false := by rw [beq_eq_false_iff_ne]; omega
  go_enter Try.func69, Try.ntmps69
  go_wp2_with fail
  refine (Size_any ws (by unfold maxLen; omega) b cb _ (hb.below ((Below.refl _ w).alloc (Nat.le_refl _) _))).mono ?_
  rintro e w' ⟨rfl, rfl⟩
  rw [hE1, hN1]
  go_wp2
  go_ret2
  exact ⟨none, 0, ret_two (by rw [E2.out]; rfl) (by rw [E1.out]; rfl), by rw [E2.out]; exact RowI.nil _ _ _ _, (Below.refl _ w).alloc (Nat.le_refl _) _⟩

namespace Pk
/-- one byte more of number i -/
def accStep (s : List UInt8) (i : Nat) (st : Nat × Nat) (x : Nat × Nat) : Nat × Nat := (st.1 + 1, if x.1 = i then st.2 ||| (s.getD st.1 0).toNat <<< (8 * x.2) else st.2)
/-- number i behind the places pre -/
def acc (s : List UInt8) (pre : List (Nat × Nat)) (i : Nat) : Nat := (pre.foldl (accStep s i) (0, 0)).2
theorem acc_fst (s : List UInt8) (i : Nat) (pre : List (Nat × Nat)) (st : Nat × Nat) : (pre.foldl (accStep s i) st).1 = st.1 + pre.length := by
  induction pre generalizing st with
  | nil => rfl
  | cons x pre ih => rw [List.foldl_cons, ih]; simp [accStep]; omega
theorem acc_snoc (s : List UInt8) (pre : List (Nat × Nat)) (x : Nat × Nat) (i : Nat) : acc s (pre ++ [x]) i = if x.1 = i then acc s pre i ||| (s.getD pre.length 0).toNat <<< (8 * x.2) else acc s pre i := by
  unfold acc
  rw [List.foldl_append]
  show (if x.1 = i then (pre.foldl (accStep s i) (0, 0)).2 ||| (s.getD (pre.foldl (accStep s i) (0, 0)).1 0).toNat <<< (8 * x.2) else (pre.foldl (accStep s i) (0, 0)).2) = _
  rw [acc_fst, Nat.zero_add]
theorem byte_shl_lt (c : UInt8) {k : Nat} (hk : k < 8) : c.toNat <<< (8 * k) < 18446744073709551616 := by
  rw [Nat.shiftLeft_eq]
  have h1 := c.toNat_lt
  have h2 : 2 ^ (8 * k) ≤ 2 ^ 56 := Nat.pow_le_pow_right (by decide) (by omega)
  exact Nat.lt_of_le_of_lt (Nat.mul_le_mul (show c.toNat ≤ 255 by omega) h2) (by decide)
theorem acc_lt (s : List UInt8) (i : Nat) (pre : List (Nat × Nat)) (h : ∀ x ∈ pre, x.2 < 8) : acc s pre i < 18446744073709551616 := by
  have key : ∀ (pre : List (Nat × Nat)) (st : Nat × Nat), (∀ x ∈ pre, x.2 < 8) → st.2 < 2 ^ 64 → (pre.foldl (accStep s i) st).2 < 2 ^ 64 := by
    intro pre
    induction pre with
    | nil => exact fun _ _ h => h
    | cons x pre ih =>
      intro st hx hst
      refine ih _ (fun y hy => hx y (List.mem_cons_of_mem _ hy)) ?_
      unfold accStep
      dsimp only
      split
      · exact Nat.or_lt_two_pow hst (byte_shl_lt _ (hx x (List.mem_cons_self ..)))
      · exact hst
  exact key pre (0, 0) h (by decide)
theorem acc_all (s : List UInt8) (ws : List Int) (j : Nat) (i k : Nat) : acc s (plP ws i k) j = if j < i then num s (offs ws j) (wd ws j) else if j = i then num s (offs ws i) k else 0 := by
  induction i generalizing k with
  | zero =>
    induction k with
    | zero => simp [plP, acc, num]
    | succ k ih =>
      rw [plP_succ, acc_snoc, ih, plP_length]
      by_cases e : j = 0
      · subst e; simp only [if_pos, Nat.lt_irrefl, if_false]; exact num_or s _ k
      · rw [if_neg (fun h => e h.symm)]; simp [e]
  | succ i ihi =>
    induction k with
    | zero =>
      rw [← plP_next, ihi]
      by_cases e1 : j < i
      · rw [if_pos e1, if_pos (by omega)]
      · by_cases e2 : j = i
        · subst e2; simp
        · rw [if_neg e1, if_neg e2, if_neg (by omega)]
          split
          · rfl
          · rfl
    | succ k ih =>
      rw [plP_succ, acc_snoc, ih, plP_length]
      by_cases e : j = i + 1
      · subst e; simp only [if_pos, Nat.lt_irrefl, if_false]; exact num_or s _ k
      · rw [if_neg (fun h => e h.symm)]; simp [e]
theorem or_byte (A : Nat) (c : UInt8) (k : Nat) (hA : A < 18446744073709551616) (hk : k < 8) : bits BinOp.or IntKind.u64 (A : Int) (IntKind.u64.wrap (IntKind.u64.wrap (c.toNat : Int) * 2 ^ (8 * k))) = ((A ||| c.toNat <<< (8 * k) : Nat) : Int) := by
  have hc := c.toNat_lt
  have h := byte_shl_lt c hk
  have e : IntKind.u64.wrap (IntKind.u64.wrap (c.toNat : Int) * 2 ^ (8 * k)) = ((c.toNat <<< (8 * k) : Nat) : Int) := by
    have e1 : IntKind.u64.wrap (c.toNat : Int) = (c.toNat : Int) := by rw [IntKind.wrap_u64]; omega
    have e2 : (c.toNat : Int) * 2 ^ (8 * k) = ((c.toNat <<< (8 * k) : Nat) : Int) := by rw [Nat.shiftLeft_eq, Int.natCast_mul, Int.natCast_pow]; rfl
    rw [e1, e2, IntKind.wrap_u64]
    obtain ⟨y, hy⟩ : ∃ y, c.toNat <<< (8 * k) = y := ⟨_, rfl⟩
    rw [hy] at h ⊢; omega
  rw [e]
  exact u64_or_nat A _ hA h
end Pk

set_option maxRecDepth 100000 in
set_option maxHeartbeats 2000000 in
theorem Decode_yes (s : ByteArray) (ws : List Int) (hok : Pk.okW ws = true) (hsz : s.size = Pk.offs ws ws.length) (b : Option Addr) (cb : Nat) (w : World)
    (hb : RowI .i64 w b ws.length (fun j => ws.getD j 0)) :
    Calls Try.prog 69 #[.string s, .slice b ws.length cb] w (DecAns s.data.toList ws w) := by
  have hE1 := Pk.sizeE_yes hok
  have hN1 := Pk.sizeN_yes hok
  have h64 := Pk.okW_len hok
  have hoffs := Pk.offs_le hok (Nat.le_refl _)
  have hsl : s.data.toList.length = Pk.offs ws ws.length := by simpa using hsz
  have E1 : Hid (Pk.decE s.data.toList ws = 0) := Pk.decE_yes hok hsl
  have E2 : Hid ((Pk.dec s.data.toList ws).length = ws.length) := Pk.dec_length hok hsl
  have E3 : Hid (∀ i, i < ws.length → (Pk.dec s.data.toList ws).getD i 0 = Pk.num s.data.toList (Pk.offs ws i) (Pk.wd ws i)) := fun i hi => Pk.dec_at hok hsl hi
  have hne2 : ((s.size : Int) == (Pk.offs ws ws.length : Nat)) = true := by rw [hsz]; simp
  have Hsz : Hid (s.size = Pk.offs ws ws.length) := hsz
  clear hsz hsl
  have kb1 := (Below.refl _ w).alloc (Nat.le_refl w.heap.size) (.cells #[.string s] 9)
  have hmk := run_make_row' (P := Try.prog) 62 22 (.int .u64 0) 8 Try.underlying62 (by kernel_rfl) rfl .i64 .i64 ws.length (by omega) (by omega)
  refine (callsIn_wide (n := 3)).1 ?_
  refine callsIn_of_wp_marks Try.func69 rfl trivial ?_ rfl
  simp only [Try.ntmps69, List.size_toArray, List.length_cons, List.length_nil, Nat.reduceAdd, Nat.reduceSub, Array.replicate_succ, Array.replicate_zero, List.push_toArray, List.append_toArray, List.nil_append, List.cons_append]
  gi_wp2_with fail
  refine ⟨trivial, (callsIn_wide.2 (Size_any ws (by unfold maxLen; omega) b cb _ (hb.below kb1))).mono ?_⟩
  rintro e w' ⟨rfl, rfl⟩
  rw [hE1, hN1]
  gi_wp2_with fail
  refine ⟨trivial, (callsIn_wide.2 (places_any b ws.length cb _)).mono ?_⟩
  rintro e w' ⟨rfl, rfl⟩
  gi_wp2_with fail
  have bS := ((((Boxed.new w 9 (.string s)).alloc (.cells (madeCells #[.int .u64 0] ws.length) 22)).alloc (.cells #[.slice (some ⟨w.heap.size + 1, 0, none⟩) ws.length ws.length] 62)).alloc (.cells #[.int .i64 0] 3)).alloc (.cells #[.slice b ws.length cb] 63)
  have bL := ((Boxed.new ((w.alloc (.cells #[.string s] 9)).alloc (.cells (madeCells #[.int .u64 0] ws.length) 22)) 62 (.slice (some ⟨w.heap.size + 1, 0, none⟩) ws.length ws.length)).alloc (.cells #[.int .i64 0] 3)).alloc (.cells #[.slice b ws.length cb] 63)
  have bN := (Boxed.new (((w.alloc (.cells #[.string s] 9)).alloc (.cells (madeCells #[.int .u64 0] ws.length) 22)).alloc (.cells #[.slice (some ⟨w.heap.size + 1, 0, none⟩) ws.length ws.length] 62)) 3 (.int .i64 0)).alloc (.cells #[.slice b ws.length cb] 63)
  have bW := Boxed.new ((((w.alloc (.cells #[.string s] 9)).alloc (.cells (madeCells #[.int .u64 0] ws.length) 22)).alloc (.cells #[.slice (some ⟨w.heap.size + 1, 0, none⟩) ws.length ws.length] 62)).alloc (.cells #[.int .i64 0] 3)) 63 (.slice b ws.length cb)
  have hrow0 : rowV ((w.alloc (.cells #[.string s] 9)).alloc (.cells (madeCells #[.int .u64 0] ws.length) 22)) (w.heap.size + 1) ws.length (fun j => .int .u64 (Pk.acc s.data.toList [] j : Nat)) := by
    have h := rowV_new (w.alloc (.cells #[.string s] 9)) (madeCells #[.int .u64 0] ws.length) 22 (fun j => .int .u64 (Pk.acc s.data.toList [] j : Nat)) (fun j hj => by
      have hj' : j < ws.length := by simpa [size_madeCells] using hj
      simp [madeCells, hj', Nat.mod_one, Pk.acc])
    rw [World.size_alloc, size_madeCells] at h; exact h
  have kb2 := kb1.alloc (by simp) (.cells (madeCells #[.int .u64 0] ws.length) 22)
  have kb5 := ((kb2.alloc (by simp <;> omega) (.cells #[.slice (some ⟨w.heap.size + 1, 0, none⟩) ws.length ws.length] 62)).alloc (by simp <;> omega) (.cells #[.int .i64 0] 3)).alloc (by simp <;> omega) (.cells #[.slice b ws.length cb] 63)
  have hrow := hrow0.below (((((Below.refl ((w.alloc (.cells #[.string s] 9)).alloc (.cells (madeCells #[.int .u64 0] ws.length) 22)).heap.size _).alloc (Nat.le_refl _) (.cells #[.slice (some ⟨w.heap.size + 1, 0, none⟩) ws.length ws.length] 62)).alloc (by simp <;> omega) (.cells #[.int .i64 0] 3)).alloc (by simp <;> omega) (.cells #[.slice b ws.length cb] 63))) (by simp)
  simp only [World.size_alloc] at bL bN bW
  refine wpIn_rangeFunc_ownG rfl (by decide) (gf := 57) (lb := #[.pointer (some ⟨w.heap.size + 1 + 1 + 1 + 1, 0, none⟩)]) rfl trivial (enters_of Try.func57 (by kernel_rfl) rfl)
    (places_stops Fence.wide (3 - 1) trivial rfl (by decide) (w.heap.size + 1 + 1 + 1 + 1) ws hok b cb w _ kb5 hb (by simp) bW.cell) belowK_t (belowK_b (by simp <;> omega)) (Below.refl _ _) (fun _ => rfl)
    (fun pre W => (rowV W (w.heap.size + 1) ws.length (fun j => .int .u64 (Pk.acc s.data.toList (pre.map (·.1)) j : Nat)) ∧ w.heap.size + 1 < W.heap.size) ∧ (Boxed W (w.heap.size + 1 + 1 + 1) 3 (.int .i64 (pre.length : Nat)) ∧ (Boxed W w.heap.size 9 (.string s) ∧ (Boxed W (w.heap.size + 1 + 1) 62 (.slice (some ⟨w.heap.size + 1, 0, none⟩) ws.length ws.length) ∧ Below w.heap.size w W))))
    (fun _ _ _ => False)
    (OwnFrom.and (Own.from (rowV_own _ _ _) _) (OwnFrom.and (Own.from (boxed_own _ _ _) _) (OwnFrom.and (Own.from (boxed_own _ _ _) _) (OwnFrom.and (Own.from (boxed_own _ _ _) _) (ownFrom_below (Nat.le_refl _) (by simp <;> omega))))))
    (fun _ _ _ _ _ hs _ _ => hs)
    ⟨⟨hrow, by simp <;> omega⟩, bN, bS, bL, kb5⟩
    (fun x => { tmps := #[.string s, .slice b ws.length cb, .pointer (some ⟨w.heap.size, 0, none⟩), undef,
          .slice none 0 0, .int .i64 0, .int .i64 (Pk.offs ws ws.length : Nat),
          .int .i64 0, .pointer (some ⟨w.heap.size + 1 + 1, 0, none⟩),
          .pointer (some ⟨w.heap.size + 1 + 1 + 1, 0, none⟩), .int .i64 (x.1.1 : Int), .int .i64 (8 * (x.1.2 : Int)),
          .tuple #[.int .i64 (Pk.offs ws ws.length : Nat), .int .i64 0],
          .slice b ws.length cb,
          .tuple #[.int .i64 (Pk.offs ws ws.length : Nat), .int .i64 0],
          .int .i64 (Pk.offs ws ws.length : Nat), .int .i64 0, .bool false,
          .int .i64 0, .bool false, undef, .bool false, .string s,
          .int .i64 (s.size : Nat), .int .i64 (Pk.offs ws ws.length : Nat), .bool false,
          .slice b ws.length cb, .int .i64 (ws.length : Nat),
          .slice (some ⟨w.heap.size + 1, 0, none⟩) ws.length ws.length, .slice b ws.length cb,
          .func (.func 57) #[] #[.pointer (some ⟨w.heap.size + 1 + 1 + 1 + 1, 0, none⟩)], .int .i64 (x.1.1 : Int), .int .i64 (8 * (x.1.2 : Int)),
          undef, undef, undef, undef, undef, undef, undef, undef, undef, undef, undef, undef, undef, undef,
          undef], defers := [] }) ?assign ?body ?done ?stop
  case assign =>
    intro l x W K hK
    gi_wp2
    exact hK
  case body =>
    rintro _ pre ⟨⟨i, k⟩, hik, hk8⟩ W ⟨⟨hr, hrlt⟩, hvn, hvs, hvl, hB⟩ hlt
    have hcn := hvn.cell
    have hfn := hvn.frozen
    have hcs := hvs.cell
    have hcl := hvl.cell
    have hcr := (hr i hik).1
    have hfr := (hr i hik).2
    have hA := Pk.acc_lt s.data.toList i (pre.map (·.1)) (fun x hx => by obtain ⟨y, _, rfl⟩ := List.mem_map.1 hx; exact y.2.2)
    obtain ⟨A, hA2⟩ : ∃ A, Pk.acc s.data.toList (pre.map (·.1)) i = A := ⟨_, rfl⟩
    simp only [hA2] at hcr
    rw [hA2] at hA
    have HA : Hid (Pk.acc s.data.toList (pre.map (·.1)) i = A) := hA2
    obtain ⟨t, ht2⟩ : ∃ t, pre.length = t := ⟨_, rfl⟩
    rw [ht2] at hcn hlt
    have Ht : Hid (pre.length = t) := ht2
    have hts : t < s.size := by rw [Hsz.out]; exact hlt
    have hmx : Try.prog.follows .mixedOrders = true := by kernel_rfl
    have Hr : Hid (rowV W (w.heap.size + 1) ws.length (fun j => .int .u64 (Pk.acc s.data.toList (pre.map (·.1)) j : Nat))) := hr
    have hB0 := hB.size
    clear hA2 ht2 hr
    gi_wp2
    have hS0 : (fun w' : World => w'.cell? ⟨w.heap.size + 1 + 1, 0, none⟩ = some (.slice (some ⟨w.heap.size + 1, 0, none⟩) ws.length ws.length) ∧ w'.cell? ⟨w.heap.size, 0, none⟩ = some (.string s) ∧ w'.cell? ⟨w.heap.size + 1 + 1 + 1, 0, none⟩ = some (.int .i64 (t : Nat))) W.drew := ⟨hcl, hcs, hcn⟩
    have hSe : ∀ V : Value, (fun w' : World => w'.cell? ⟨w.heap.size + 1 + 1, 0, none⟩ = some (.slice (some ⟨w.heap.size + 1, 0, none⟩) ws.length ws.length) ∧ w'.cell? ⟨w.heap.size, 0, none⟩ = some (.string s) ∧ w'.cell? ⟨w.heap.size + 1 + 1 + 1, 0, none⟩ = some (.int .i64 (t : Nat))) (W.setCell ⟨w.heap.size + 1, i, none⟩ V).drew := fun V => ⟨(boxed_setOther hvl _ i V (by omega)).cell, (boxed_setOther hvs _ i V (by omega)).cell, by have h := (boxed_setOther hvn (w.heap.size + 1) i V (by omega)).cell; rw [Ht.out] at h; exact h⟩
    refine region_in_round (fun w' => w'.cell? ⟨w.heap.size + 1 + 1, 0, none⟩ = some (.slice (some ⟨w.heap.size + 1, 0, none⟩) ws.length ws.length) ∧ w'.cell? ⟨w.heap.size, 0, none⟩ = some (.string s) ∧ w'.cell? ⟨w.heap.size + 1 + 1 + 1, 0, none⟩ = some (.int .i64 (t : Nat))) hmx (by kernel_rfl) (fun ⟨_, _, h⟩ => h) ?_
    refine held_quiet 0 (v := ?v0q1) rfl (by kernel_rfl) (fun _ _ _ h => h) (by assumption) rfl ?hy0q1 ?rest0q1
    case hy0q1 => (intro wS hSw; (try dsimp only at hSw); go_simp; try with_reducible rfl)
    try simp only [Act.put, List.setIfInBounds_toArray, List.set_cons_zero, List.set_cons_succ]
    refine held_quiet 1 (v := ?v1q2) rfl (by kernel_rfl) (fun _ _ _ h => h) (by assumption) rfl ?hy1q2 ?rest1q2
    case hy1q2 => (intro wS hSw; (try dsimp only at hSw); go_simp; try with_reducible rfl)
    try simp only [Act.put, List.setIfInBounds_toArray, List.set_cons_zero, List.set_cons_succ]
    refine held_quiet 2 (v := ?v2q3) rfl (by kernel_rfl) (fun _ _ _ h => h) (by assumption) rfl ?hy2q3 ?rest2q3
    case hy2q3 => (intro wS hSw; (try dsimp only at hSw); go_simp; try with_reducible rfl)
    try simp only [Act.put, List.setIfInBounds_toArray, List.set_cons_zero, List.set_cons_succ]
    refine held_quiet 4 (v := ?v4q4) rfl (by kernel_rfl) (fun _ _ _ h => h) (by assumption) rfl ?hy4q4 ?rest4q4
    case hy4q4 => (intro wS hSw; (try dsimp only at hSw); go_simp; try with_reducible rfl)
    try simp only [Act.put, List.setIfInBounds_toArray, List.set_cons_zero, List.set_cons_succ]
    refine held_quiet 5 (v := ?v5q5) rfl (by kernel_rfl) (fun _ _ _ h => h) (by assumption) rfl ?hy5q5 ?rest5q5
    case hy5q5 => (intro wS hSw; (try dsimp only at hSw); go_simp; try with_reducible rfl)
    try simp only [Act.put, List.setIfInBounds_toArray, List.set_cons_zero, List.set_cons_succ]
    refine held_quiet 6 (v := ?v6q6) rfl (by kernel_rfl) (fun _ _ _ h => h) (by assumption) rfl ?hy6q6 ?rest6q6
    case hy6q6 => (intro wS hSw; (try dsimp only at hSw); go_simp; try with_reducible rfl)
    try simp only [Act.put, List.setIfInBounds_toArray, List.set_cons_zero, List.set_cons_succ]
    refine held_quiet 7 (v := ?v7q7) rfl (by kernel_rfl) (fun _ _ _ h => h) (by assumption) rfl ?hy7q7 ?rest7q7
    case hy7q7 => (intro wS hSw; (try dsimp only at hSw); go_simp; try with_reducible rfl)
    try simp only [Act.put, List.setIfInBounds_toArray, List.set_cons_zero, List.set_cons_succ]
    refine held_quiet 8 (v := ?v8q8) rfl (by kernel_rfl) (fun _ _ _ h => h) (by assumption) rfl ?hy8q8 ?rest8q8
    case hy8q8 => (intro wS hSw; (try dsimp only at hSw); go_simp; try with_reducible rfl)
    try simp only [Act.put, List.setIfInBounds_toArray, List.set_cons_zero, List.set_cons_succ]
    refine held_quiet 9 (v := ?v9q9) rfl (by kernel_rfl) (fun _ _ _ h => h) (by assumption) rfl ?hy9q9 ?rest9q9
    case hy9q9 => (intro wS hSw; (try dsimp only at hSw); go_simp; try with_reducible rfl)
    try simp only [Act.put, List.setIfInBounds_toArray, List.set_cons_zero, List.set_cons_succ]
    refine held_one 3 rfl (by kernel_rfl) ?_
    go_wp2
    try refine ⟨hS0, ?_⟩
    refine held_quiet 10 (v := ?v10q10) rfl (by kernel_rfl) (fun _ _ _ h => h) (by assumption) rfl ?hy10q10 ?rest10q10
    case hy10q10 => (intro wS hSw; (try dsimp only at hSw); go_simp; try with_reducible rfl)
    try simp only [Act.put, List.setIfInBounds_toArray, List.set_cons_zero, List.set_cons_succ]
    refine held_quiet 11 (v := ?v11q11) rfl (by kernel_rfl) (fun _ _ _ h => h) (by assumption) rfl ?hy11q11 ?rest11q11
    case hy11q11 => (intro wS hSw; (try dsimp only at hSw); go_simp; try with_reducible rfl)
    try simp only [Act.put, List.setIfInBounds_toArray, List.set_cons_zero, List.set_cons_succ]
    refine held_one 12 rfl (by kernel_rfl) ?_
    go_wp2
    have hor := Pk.or_byte A (s[t]) k hA hk8
    rw [hor]
    refine ⟨hSe _, held_done (by kernel_rfl) ?_⟩
    gi_wp2
    have hsn : pre.length + 1 = (pre ++ [(⟨(i, k), hik, hk8⟩ : Pk.Pl ws.length)]).length := by simp
    obtain ⟨V1, hV1⟩ : ∃ V1, Value.int .u64 ((A ||| s[t].toNat <<< (8 * k) : Nat) : Int) = V1 := ⟨_, rfl⟩
    rw [hV1]
    have v1 := boxed_setOther (boxed_setOther hvs (w.heap.size + 1) i V1 (by omega)) (w.heap.size + 1 + 1 + 1) 0 (.int .i64 ((t : Int) + 1)) (by omega)
    have v2 := boxed_setOther (boxed_setOther hvl (w.heap.size + 1) i V1 (by omega)) (w.heap.size + 1 + 1 + 1) 0 (.int .i64 ((t : Int) + 1)) (by omega)
    have v3 := (boxed_setOther hvn (w.heap.size + 1) i V1 (by omega)).set (.int .i64 ((t : Int) + 1))
    have v4 := (hB.setCell (p := ⟨w.heap.size + 1, i, none⟩) (by simp) V1).setCell (p := ⟨w.heap.size + 1 + 1 + 1, 0, none⟩) (by simp <;> omega) (.int .i64 ((t : Int) + 1))
    have v5 := ((Below.refl w.heap.size W).setCell (p := ⟨w.heap.size + 1, i, none⟩) (by simp) V1).setCell (p := ⟨w.heap.size + 1 + 1 + 1, 0, none⟩) (by simp <;> omega) (.int .i64 ((t : Int) + 1))
    have v6 := (KeepsOthers.setCell W ⟨w.heap.size + 1, i, none⟩ V1).trans (KeepsOthers.setCell _ ⟨w.heap.size + 1 + 1 + 1, 0, none⟩ (.int .i64 ((t : Int) + 1)))
    have v7 := rowV.below (B := w.heap.size + 1 + 1) (Hr.out.set i V1) ((Below.refl _ _).setCell (p := ⟨w.heap.size + 1 + 1 + 1, 0, none⟩) (by simp) (.int .i64 ((t : Int) + 1))) (by omega)
    refine ⟨⟨v6.size, fun k' o _ hk' ho => v6.same k' o hk' ho⟩, v5.drew, ⟨⟨?_, ?_⟩, ?_, v1, v2, v4.drew⟩⟩
    · refine rowV.mono v7 ?_
      intro j hj
      rw [List.map_append]
      show (if j = i then _ else _) = Value.int .u64 (Pk.acc s.data.toList (pre.map (·.1) ++ [(i, k)]) j : Nat)
      rw [Pk.acc_snoc]
      by_cases e : j = i
      · subst e
        rw [if_pos rfl, if_pos rfl, HA.out, List.length_map, Ht.out, ← hV1]
        rw [List.getD_eq_getElem?_getD, List.getElem?_eq_getElem (by simpa using hts)]
        rfl
      · rw [if_neg e, if_neg (fun h => e h.symm)]
    · exact Nat.lt_of_lt_of_le hrlt v6.size
    · rw [← hsn, Ht.out]; exact v3
  case done =>
    rintro D ys W hD hys ⟨⟨hr, hrlt⟩, hvn, hvs, hvl, hB⟩ hK
    have hcl := hvl.cell
    have Hr : Hid (rowV W (w.heap.size + 1) ws.length (fun j => .int .u64 (Pk.acc s.data.toList (ys.map (·.1)) j : Nat))) := hr
    clear hr
    gi_wp2
    refine ⟨by simp, .inl ⟨_, _, rfl, run_takeDeferred hK, ?_⟩⟩
    refine ⟨_, results_tmp2 (fn := Try.f69) rfl _ _ _, some ⟨w.heap.size + 1, 0, none⟩, ws.length, ret_two (by rw [E2.out]; rfl) (by rw [E1.out]; rfl), ?_, hB.trans (belowK_b (w := w) (Nat.le_refl _) W D _ _ (by simp at hD; omega) hK rfl rfl)⟩
    rw [E2.out]
    intro j hj
    have hrj := Hr.out j hj
    simp only [hys, Pk.acc_all, if_pos hj] at hrj
    refine ⟨w.heap.size + 1, 0, rfl, ?_⟩
    rw [Nat.zero_add]
    show _ = some (Value.int .u64 ((Pk.dec s.data.toList ws).getD j 0 : Nat))
    rw [E3.out j hj]
    exact cell_kept hrj.1 (grownBy_putObj' _ D (.deferred none)) (fun r e => by cases e; exact ⟨_, hK, rfl⟩)
  case stop =>
    rintro D c pre W _ _ h _
    exact h.elim

theorem Decode_any (s : ByteArray) (ws : List Int) (hs : s.size ≤ maxLen) (hlen : ws.length ≤ maxLen) (b : Option Addr) (cb : Nat) (w : World)
    (hb : RowI .i64 w b ws.length (fun j => ws.getD j 0)) :
    Calls Try.prog 69 #[.string s, .slice b ws.length cb] w (DecAns s.data.toList ws w) := by
  cases hok : Pk.okW ws with
  | false => exact Decode_size s ws hok hlen b cb w hb
  | true =>
    by_cases hc : s.size = Pk.offs ws ws.length
    · exact Decode_yes s ws hok hc b cb w hb
    · exact Decode_short s ws hok hc hs b cb w hb
end Go.Proofs.Ytgkhnfchohcjeaa
