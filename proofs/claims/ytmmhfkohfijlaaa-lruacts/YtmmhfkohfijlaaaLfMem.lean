/- Where the document's own list lies: its block, a row of its keys, a row of how often each is pinned. -/
import Derived.Test.YtmmhfkohfijlaaaLrMine
import Derived.Deep.AppendLies
namespace Go.Proofs.Ytmmhfkohfijlaaa
open Go.RowKit Lr

namespace Lr
/-- how often each is pinned -/
def pinsL (l : L) : List Int := l.map fun x => ((x.2 : Nat) : Int)
theorem pinsL_length (l : L) : (pinsL l).length = l.length := by simp [pinsL]
theorem pinsL_at (l : L) {i : Nat} (h : i < l.length) : (pinsL l).getD i 0 = (((l.getD i (0, 0)).2 : Nat) : Int) := by
  simp [pinsL, List.getD_eq_getElem?_getD, List.getElem?_map, List.getElem?_eq_getElem h]
theorem pinsL_erase (l : L) (i : Nat) : pinsL (l.eraseIdx i) = (pinsL l).eraseIdx i := map_erase _ l i

structure RefIn (w : World) (rp room : Nat) (vk vp : Value) (l : L) : Prop where
  self : w.heap[rp]? = some (.cells #[.int .i64 (room : Nat), vk, vp] 35 (0, 0))
  k : w.ownsRow 0 3 1 vk l.length (iV (keys l))
  p : w.ownsRow 0 3 1 vp l.length (iV (pinsL l))
  ap : ∀ g, vk.ownBlock = some g → vp.ownBlock ≠ some g
/-- the document's own list lies behind the pointer to block rp, within the blocks of which G holds -/
def RefAt (w : World) (rp room : Nat) (l : L) (G : Nat → Prop) : Prop := ∃ vk vp, RefIn w rp room vk vp l ∧ G rp ∧ (∀ g, vk.ownBlock = some g → G g) ∧ ∀ g, vp.ownBlock = some g → G g
variable {w w' : World} {rp room : Nat} {vk vp : Value} {l : L}
theorem ownBlock_type {base t n : Nat} {v : Value} {xs : List Value} (h : w.ownsRow base t 1 v n xs) {g : Nat} (hg : v.ownBlock = some g) : ∃ cur, w.heap[g]? = some (.cells cur t (0, 0)) := by
  rcases h.2 with ⟨rfl, _⟩ | ⟨g', cap, cur, rfl, _, hc, _⟩
  · simp [Value.ownBlock] at hg
  · simp [Value.ownBlock] at hg; subst hg; exact ⟨cur, hc⟩
theorem owns_only {G : Nat → Prop} (hg : Only G w w') {b t n : Nat} {v : Value} {xs : List Value} (h : w.ownsRow b t 1 v n xs) (hn : ∀ k, v.ownBlock = some k → ¬ G k) : w'.ownsRow b t 1 v n xs := by
  refine ⟨h.1, ?_⟩
  rcases h.2 with h0 | ⟨g, cap, cur, rfl, h1, h2, rest⟩
  · exact .inl h0
  · exact .inr ⟨g, cap, cur, rfl, h1, (hg.block g (Array.getElem?_eq_some_iff.1 h2).1 (hn g rfl)).trans h2, rest⟩
theorem RefIn.rp_k (h : RefIn w rp room vk vp l) : vk.ownBlock ≠ some rp := fun e => by
  obtain ⟨cur, hc⟩ := ownBlock_type h.k e
  rw [h.self] at hc; simp at hc
theorem RefIn.rp_p (h : RefIn w rp room vk vp l) : vp.ownBlock ≠ some rp := fun e => by
  obtain ⟨cur, hc⟩ := ownBlock_type h.p e
  rw [h.self] at hc; simp at hc
theorem RefIn.lt (h : RefIn w rp room vk vp l) : rp < w.heap.size := (Array.getElem?_eq_some_iff.1 h.self).1
theorem RefIn.c0 (h : RefIn w rp room vk vp l) : w.cell? ⟨rp, 0, none⟩ = some (.int .i64 (room : Nat)) := by rw [cell_of_row w rp 0 _ _ _ h.self]; rfl
theorem RefIn.c1 (h : RefIn w rp room vk vp l) : w.cell? ⟨rp, 1, none⟩ = some vk := by rw [cell_of_row w rp 1 _ _ _ h.self]; rfl
theorem RefIn.c2 (h : RefIn w rp room vk vp l) : w.cell? ⟨rp, 2, none⟩ = some vp := by rw [cell_of_row w rp 2 _ _ _ h.self]; rfl
theorem RefIn.fz (h : RefIn w rp room vk vp l) (j : Nat) : w.frozen? ⟨rp, j, none⟩ = false := frozen_of_row w rp j _ _ h.self
theorem RefIn.klt (h : RefIn w rp room vk vp l) {g : Nat} (hg : vk.ownBlock = some g) : g < w.heap.size := (h.k.lt g hg).2
theorem RefIn.plt (h : RefIn w rp room vk vp l) {g : Nat} (hg : vp.ownBlock = some g) : g < w.heap.size := (h.p.lt g hg).2
theorem RefIn.only {G : Nat → Prop} (h : RefIn w rp room vk vp l) (o : Only G w w') (h1 : ¬ G rp) (h2 : ∀ g, vk.ownBlock = some g → ¬ G g) (h3 : ∀ g, vp.ownBlock = some g → ¬ G g) : RefIn w' rp room vk vp l :=
  ⟨(o.block rp h.lt h1).trans h.self, owns_only o h.k h2, owns_only o h.p h3, h.ap⟩
theorem RefAt.only {F G : Nat → Prop} (h : RefAt w rp room l F) (o : Only G w w') (hn : ∀ k, k < w.heap.size → F k → ¬ G k) : RefAt w' rp room l F := by
  obtain ⟨vk, vp, hin, h1, h2, h3⟩ := h
  exact ⟨vk, vp, hin.only o (hn rp hin.lt h1) (fun g hg => hn g (hin.klt hg) (h2 g hg)) (fun g hg => hn g (hin.plt hg) (h3 g hg)), h1, h2, h3⟩
theorem RefAt.below {F : Nat → Prop} (h : RefAt w rp room l F) (hb : Below w.heap.size w w') : RefAt w' rp room l F := h.only (Only.of_below hb (fun _ => False)) (fun _ _ _ hf => hf)
theorem RefAt.mono {F G : Nat → Prop} (h : RefAt w rp room l F) (hs : ∀ k, F k → G k) : RefAt w rp room l G := by
  obtain ⟨vk, vp, hin, h1, h2, h3⟩ := h
  exact ⟨vk, vp, hin, hs _ h1, fun g hg => hs g (h2 g hg), fun g hg => hs g (h3 g hg)⟩
theorem RefAt.tight {F : Nat → Prop} (h : RefAt w rp room l F) : RefAt w rp room l (fun k => F k ∧ k < w.heap.size) := by
  obtain ⟨vk, vp, hin, h1, h2, h3⟩ := h
  exact ⟨vk, vp, hin, ⟨h1, hin.lt⟩, fun g hg => ⟨h2 g hg, hin.klt hg⟩, fun g hg => ⟨h3 g hg, hin.plt hg⟩⟩
/-- two rows of ints in one memory, apart from each other -/
structure TwoR (w : World) (B : Nat) (v1 v2 : Value) (xs ys : List Int) : Prop where
  a : w.ownsRow B 3 1 v1 xs.length (iV xs)
  b : w.ownsRow B 3 1 v2 ys.length (iV ys)
  ap : ∀ g, v1.ownBlock = some g → v2.ownBlock ≠ some g
theorem TwoR.swap {B : Nat} {v1 v2 : Value} {xs ys : List Int} (h : TwoR w B v1 v2 xs ys) : TwoR w B v2 v1 ys xs := ⟨h.b, h.a, fun g h1 h2 => h.ap g h2 h1⟩
theorem TwoR.alloc {B : Nat} {v1 v2 : Value} {xs ys : List Int} (h : TwoR w B v1 v2 xs ys) (o : Obj) : TwoR (w.alloc o) B v1 v2 xs ys := ⟨h.a.alloc o, h.b.alloc o, h.ap⟩
/-- the first one grows -/
theorem TwoR.grown {B : Nat} {v1 v2 : Value} {xs ys zs : List Int} (h : TwoR w B v1 v2 xs ys) {g n cap : Nat} (hn : n = zs.length) (ho : w'.ownsRow B 3 1 (.slice (some ⟨g, 0, none⟩) n cap) n (iV zs)) (hg : w.grownBy w' v1.ownBlock) (hl : v1.ownBlock = some g ∨ g = w.heap.size) :
    TwoR w' B (.slice (some ⟨g, 0, none⟩) n cap) v2 zs ys := by
  subst hn
  refine ⟨ho, h.b.kept hg ?_, fun q h1 h2 => ?_⟩
  · cases e : v2.ownBlock with
    | none => exact .inl rfl
    | some q => exact .inr fun e2 => h.ap q e2.symm e
  · have : g = q := by simpa [Value.ownBlock] using h1
    subst this
    rcases hl with e | e
    · exact h.ap _ e h2
    · have := (h.b.lt _ h2).2; omega
theorem TwoR.below {B : Nat} {v1 v2 : Value} {xs ys : List Int} (h : TwoR w B v1 v2 xs ys) {W : World} (hb : Below B W w) (hB : B ≤ w.heap.size) (hg : w.grownBy w' v1.ownBlock) : Below B W w' :=
  hb.grown hg hB fun k hk => (h.a.lt k hk).1
end Lr

section
variable {ops : Array Oper} {rest : List Oper} {o : Oper} {a : Act} {Q : Exit → Act → World → Prop}
/-- the law on 'append(x, l...)', for a slice of ints that is nil or not, whatever is in it -/
theorem wpList_append_ints (w : World) (hgd : o.guard = none) (s x : Operand) (ho : o.op = .call { callee := .builtin .append, args := #[s, x], argTypes := #[32, 32] })
    (base g k c : Nat) (xs : List Int) (hs : a.eval s = .slice (some ⟨g, 0, none⟩) k c) (hown : w.ownsRow base 3 1 (.slice (some ⟨g, 0, none⟩) k c) k (iV xs))
    (ad : Option Addr) (m cx : Nat) (ys : List Int) (hx : a.eval x = .slice ad m cx) (hlen : ys.length = m) (hrow : RowI .i64 w ad m (fun j => ys.getD j 0)) (hle : k + m ≤ 1000000) (hbase : base ≤ w.heap.size)
    (h : ∀ g' c' w', w'.ownsRow base 3 1 (.slice (some ⟨g', 0, none⟩) (k + m) c') (k + m) (iV (xs ++ ys)) → w.grownBy w' (some g) → (g' = g ∨ g' = w.heap.size) →
      wpList Try.prog ops Q rest (a.put o.dst (.slice (some ⟨g', 0, none⟩) (k + m) c')) w') : wpList Try.prog ops Q (o :: rest) a w := by
  obtain ⟨i0, hi, hz0, hz1, hz2⟩ := info_parts (show (Try.prog.info? 3).map (fun i => (i.zero, i.size, i.bytes)) = some (some (.int .i64 0), 1, 8) by kernel_rfl)
  by_cases hm : m = 0
  · subst hm
    have hys : ys = [] := List.length_eq_zero_iff.1 hlen
    subst hys
    have hkc : k ≤ c := by
      rcases hown.2 with ⟨e, _⟩ | ⟨_, _, _, e, _, _, h, _⟩
      · cases e
      · cases e; exact h
    have hr : (Builtin.append_ #[32, 32] o.type #[.slice (some ⟨g, 0, none⟩) k c, .slice ad 0 cx]).run Try.prog w = .ok (.slice (some ⟨g, 0, none⟩) k c) w := by
      simp [Builtin.append_, run_underlying Try.underlying32, sizeOf, typeInfo, hi, Builtin.lenOf, Builtin.firstCells, loadCells, loadCellsFrom, hkc]
      cases ad <;> simp [storeCells]
    refine wpList_plain hgd fun _ hK => ?_
    unfold Oper.wp execOp
    simp only [ho, resolve, invoke, builtin, Sem.run_bind, Sem.run_pure, Result.andThen_ok, List.map_toArray, List.map_cons, List.map_nil, hs, hx, hr]
    refine hK _ _ (h g c w ?_ ⟨rfl, rfl, rfl, Nat.le_refl _, fun _ _ _ => rfl⟩ (.inl rfl))
    rw [List.append_nil]
    exact hown
  · obtain ⟨b, off, rfl, _⟩ := hrow 0 (by omega)
    refine wpList_append_lies w hgd s x 32 ho base 3 i0 (.int .i64 0) 1 8 Try.underlying32 hi hz0 hz1 hz2 rfl (by decide) (.slice (some ⟨g, 0, none⟩) k c) k (iV xs) hs hown ⟨b, off, none⟩ m cx (iV ys) hx (by rw [List.length_map, Nat.mul_one]; exact hlen) ?_ ?_ (by omega) (by unfold maxLen; omega) (by omega) hbase w.heap.size rfl ?_
    · intro j u hu
      have hj : j < ys.length := by have := (List.getElem?_eq_some_iff.1 hu).1; simpa using this
      obtain ⟨b', off', ha, hc⟩ := hrow j (by omega)
      cases ha
      have hadd : (⟨b, off, none⟩ : Addr).add j = ⟨b, off + j, none⟩ := by unfold Addr.add; split <;> simp_all
      rw [hadd, hc, ← hu]
      simp [iV, List.getElem?_map, List.getElem?_eq_getElem hj, List.getD_eq_getElem?_getD]
    · intro u hu
      obtain ⟨x, _, rfl⟩ := List.mem_map.1 hu
      rfl
    · intro g' c' w' own' grow' lies _
      refine h g' c' w' ?_ grow' ?_
      · have : iV xs ++ iV ys = iV (xs ++ ys) := (List.map_append ..).symm
        rw [← this]; exact own'
      · rcases lies with e | e
        · exact .inl (by simpa [Value.ownBlock] using e.symm)
        · exact .inr e
end
end Go.Proofs.Ytmmhfkohfijlaaa
