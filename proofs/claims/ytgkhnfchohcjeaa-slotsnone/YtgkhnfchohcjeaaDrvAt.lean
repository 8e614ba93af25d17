/- Where a drive lies in memory: its own block, the safe sectors, which ones are spoilt, the map of its writes, and a row for each sector that has some. -/
import Derived.Test.YtgkhnfchohcjeaaDrvMath
import Derived.Test.YtgkhnfchohcjeaaKitMem
namespace Go.Proofs.Ytgkhnfchohcjeaa
open Go.RowKit Go.Maps

/-- A slice's head, as the map's reading has it: nil, or a row from its block's head on. -/
def hdrD : Value → Option (DataW Unit × List MemPlace)
  | .slice none 0 0 => some (.nil, [])
  | .slice (some ⟨g, 0, none⟩) n c => some (.agg [.lit (.int .i64 g), .lit (.int .i64 n), .lit (.int .i64 c)], [])
  | _ => none
theorem hdrD_nil : hdrD (.slice none 0 0) = some (.nil, []) := rfl
theorem hdrD_some (g n c : Nat) : hdrD (.slice (some ⟨g, 0, none⟩) n c) = some (.agg [.lit (.int .i64 g), .lit (.int .i64 n), .lit (.int .i64 c)], []) := rfl
theorem hdrD_shape {v : Value} {y : DataW Unit × List MemPlace} (h : hdrD v = some y) : v = .slice none 0 0 ∧ y = (.nil, []) ∨ ∃ g n c : Nat, v = .slice (some ⟨g, 0, none⟩) n c ∧ y = (.agg [.lit (.int .i64 g), .lit (.int .i64 n), .lit (.int .i64 c)], []) := by
  unfold hdrD at h
  split at h
  · cases h; exact .inl ⟨rfl, rfl⟩
  · cases h; exact .inr ⟨_, _, _, rfl, rfl⟩
  · cases h
theorem hdrD_inj {v v' : Value} {d : DataW Unit} {ps ps' : List MemPlace} (h : hdrD v = some (d, ps)) (h' : hdrD v' = some (d, ps')) : v = v' := by
  rcases hdrD_shape h with ⟨rfl, e⟩ | ⟨g, n, c, rfl, e⟩ <;> rcases hdrD_shape h' with ⟨rfl, e'⟩ | ⟨g', n', c', rfl, e'⟩
  · rfl
  · simp only [Prod.mk.injEq] at e e'; rw [e.1] at e'; exact absurd e'.1 (by simp)
  · simp only [Prod.mk.injEq] at e e'; rw [e.1] at e'; exact absurd e'.1 (by simp)
  · simp only [Prod.mk.injEq] at e e'; rw [e.1] at e'
    have := e'.1
    simp only [DataW.agg.injEq, List.cons.injEq, DataW.lit.injEq, Lit.int.injEq, Int.natCast_inj, and_true, true_and] at this
    obtain ⟨rfl, rfl, rfl⟩ := this
    rfl
theorem hdrD_owns {w : World} {base e size n : Nat} {v : Value} {xs : List Value} (h : w.ownsRow base e size v n xs) : ∃ d, hdrD v = some (d, []) := by
  rcases h.2 with ⟨rfl, _⟩ | ⟨g, cap, cur, rfl, _⟩
  · exact ⟨_, hdrD_nil⟩
  · exact ⟨_, hdrD_some _ _ _⟩

/-- A sector's number, as a key. -/
def keyL (i : Nat) : Lit := .int .i64 i
theorem keyL_inj {i j : Nat} (h : keyL i = keyL j) : i = j := by
  unfold keyL at h
  injection h with _ h2
  omega
theorem keyOf_at (i : Nat) (h : i ≤ 9223372036854775807) : keyOf Try.prog 3 (.int .i64 i) = some (keyL i) :=
  keyOf_int_mk Try.underlying3 (WalkArith.wf_i64 (by omega))
theorem isKeyL (i : Nat) (h : i ≤ 9223372036854775807) : WideAt.IsKeyLit (keyL i) := (int_keyed Try.underlying3).key (keyOf_at i h)

/-- The map of the writes: at the sector i stands the head hd i; just the sectors that have writes are keys. -/
structure MapIn (w : World) (mb : Nat) (hd : Nat → Value) (D : Dr) (M : DataW Unit) : Prop where
  owns : w.ownsMap Try.prog 3 hdrD mb (Maps.size M) M
  at_ : ∀ i, i < D.safe.length → ∀ d, hdrD (hd i) = some (d, []) → M.atKey (keyL i) .nil = d
  has : ∀ i, i < D.safe.length → Maps.has M (keyL i) = !(D.writes i).isEmpty
  keys : ∀ kl, Maps.has M kl = true → ∃ i, i < D.safe.length ∧ kl = keyL i

structure DrvIn (w : World) (p sb pb mb : Nat) (hd : Nat → Value) (D : Dr) : Prop where
  ok : D.Ok
  self : w.heap[p]? = some (.cells #[.slice (some ⟨sb, 0, none⟩) D.safe.length D.safe.length, .slice (some ⟨pb, 0, none⟩) D.safe.length D.safe.length, .map (some mb), .bool D.dead, .bool D.goes, .int .i64 D.left] 55 (0, 0))
  safe : ∃ cur, w.heap[sb]? = some (.cells cur 71 (0, 0)) ∧ cur.toList = flat D.safe
  spoilt : ∃ cur, w.heap[pb]? = some (.cells cur 4 (0, 0)) ∧ cur.toList = D.spoilt.map Value.bool
  map : ∃ M, MapIn w mb hd D M
  rows : ∀ i, w.ownsRow 0 71 64 (hd i) (D.writes i).length (flat (D.writes i))
  nil : ∀ i, D.writes i = [] → hd i = .slice none 0 0
  off : ∀ i, (hd i).ownBlock ≠ some sb
  apart : ∀ i j, i ≠ j → ∀ k, (hd i).ownBlock = some k → (hd j).ownBlock ≠ some k

/-- The blocks of a drive. -/
def Foot (p sb pb mb : Nat) (hd : Nat → Value) (k : Nat) : Prop := k = p ∨ k = sb ∨ k = pb ∨ k = mb ∨ ∃ i, (hd i).ownBlock = some k
/-- A drive lies behind the pointer to block p, within the blocks of which F holds. -/
def DriveAt (w : World) (p : Nat) (D : Dr) (F : Nat → Prop) : Prop := ∃ sb pb mb hd, DrvIn w p sb pb mb hd D ∧ ∀ k, Foot p sb pb mb hd k → F k

theorem DrvIn.lt {w : World} {p sb pb mb : Nat} {hd : Nat → Value} {D : Dr} (h : DrvIn w p sb pb mb hd D) : ∀ k, Foot p sb pb mb hd k → k < w.heap.size := by
  intro k hk
  rcases hk with rfl | rfl | rfl | rfl | ⟨i, hi⟩
  · exact (Array.getElem?_eq_some_iff.1 h.self).1
  · obtain ⟨cur, hc, _⟩ := h.safe; exact (Array.getElem?_eq_some_iff.1 hc).1
  · obtain ⟨cur, hc, _⟩ := h.spoilt; exact (Array.getElem?_eq_some_iff.1 hc).1
  · obtain ⟨M, hM⟩ := h.map; exact hM.owns.lt
  · exact ((h.rows i).lt k hi).2
/-- its blocks are others -/
structure Others (p sb pb mb : Nat) (hd : Nat → Value) : Prop where
  p_sb : p ≠ sb
  p_pb : p ≠ pb
  p_mb : p ≠ mb
  sb_pb : sb ≠ pb
  sb_mb : sb ≠ mb
  pb_mb : pb ≠ mb
  r_p : ∀ i, (hd i).ownBlock ≠ some p
  r_sb : ∀ i, (hd i).ownBlock ≠ some sb
  r_pb : ∀ i, (hd i).ownBlock ≠ some pb
  r_mb : ∀ i, (hd i).ownBlock ≠ some mb
theorem DrvIn.others {w : World} {p sb pb mb : Nat} {hd : Nat → Value} {D : Dr} (h : DrvIn w p sb pb mb hd D) : Others p sb pb mb hd := by
  obtain ⟨c1, hs, _⟩ := h.safe
  obtain ⟨c2, hp, _⟩ := h.spoilt
  obtain ⟨M, hM⟩ := h.map
  obtain ⟨es, cl, hm, _⟩ := hM.owns
  have hself := h.self
  have row : ∀ i k, (hd i).ownBlock = some k → ∃ cur, w.heap[k]? = some (.cells cur 71 (0, 0)) := by
    intro i k hk
    rcases (h.rows i).2 with ⟨e, _⟩ | ⟨g, cap, cur, e, _, hg, _⟩
    · rw [e] at hk; simp [Value.ownBlock] at hk
    · rw [e] at hk; simp [Value.ownBlock] at hk; subst hk; exact ⟨cur, hg⟩
  refine ⟨?_, ?_, ?_, ?_, ?_, ?_, ?_, h.off, ?_, ?_⟩
  · rintro rfl; rw [hself] at hs; simp at hs
  · rintro rfl; rw [hself] at hp; simp at hp
  · rintro rfl; rw [hself] at hm; simp at hm
  · rintro rfl; rw [hs] at hp; simp at hp
  · rintro rfl; rw [hs] at hm; simp at hm
  · rintro rfl; rw [hp] at hm; simp at hm
  · intro i e; obtain ⟨cur, hg⟩ := row i p e; rw [hself] at hg; simp at hg
  · intro i e; obtain ⟨cur, hg⟩ := row i pb e; rw [hp] at hg; simp at hg
  · intro i e; obtain ⟨cur, hg⟩ := row i mb e; rw [hm] at hg; simp at hg
theorem MapIn.only {w w' : World} {mb : Nat} {hd : Nat → Value} {D : Dr} {M : DataW Unit} (h : MapIn w mb hd D M) {G : Nat → Prop} (hg : Only G w w') (hn : ¬ G mb) : MapIn w' mb hd D M := by
  refine ⟨?_, h.at_, h.has, h.keys⟩
  have hlt := h.owns.lt
  obtain ⟨es, cl, hb, rest⟩ := h.owns
  exact ⟨es, cl, (hg.block mb hlt hn).trans hb, rest⟩
theorem ownsRow_only {w w' : World} {G : Nat → Prop} (hg : Only G w w') {b t s n : Nat} {v : Value} {l : List Value} (h : w.ownsRow b t s v n l) (hn : ∀ k, v.ownBlock = some k → ¬ G k) : w'.ownsRow b t s v n l := by
  refine ⟨h.1, ?_⟩
  rcases h.2 with h0 | ⟨g, cap, cur, rfl, h1, h2, rest⟩
  · exact .inl h0
  · exact .inr ⟨g, cap, cur, rfl, h1, (hg.block g (Array.getElem?_eq_some_iff.1 h2).1 (hn g rfl)).trans h2, rest⟩
/-- It stays where other blocks turn. -/
theorem DrvIn.only {w w' : World} {p sb pb mb : Nat} {hd : Nat → Value} {D : Dr} (h : DrvIn w p sb pb mb hd D) {G : Nat → Prop} (hg : Only G w w') (hn : ∀ k, Foot p sb pb mb hd k → ¬ G k) : DrvIn w' p sb pb mb hd D := by
  have hlt := h.lt
  obtain ⟨c1, hs, hs2⟩ := h.safe
  obtain ⟨c2, hp, hp2⟩ := h.spoilt
  obtain ⟨M, hM⟩ := h.map
  have f1 : Foot p sb pb mb hd p := .inl rfl
  have f2 : Foot p sb pb mb hd sb := .inr (.inl rfl)
  have f3 : Foot p sb pb mb hd pb := .inr (.inr (.inl rfl))
  have f4 : Foot p sb pb mb hd mb := .inr (.inr (.inr (.inl rfl)))
  exact ⟨h.ok, (hg.block p (hlt p f1) (hn p f1)).trans h.self, ⟨c1, (hg.block sb (hlt sb f2) (hn sb f2)).trans hs, hs2⟩, ⟨c2, (hg.block pb (hlt pb f3) (hn pb f3)).trans hp, hp2⟩,
    ⟨M, hM.only hg (hn mb f4)⟩, fun i => ownsRow_only hg (h.rows i) (fun k hk => hn k (.inr (.inr (.inr (.inr ⟨i, hk⟩))))), h.nil, h.off, h.apart⟩
theorem DriveAt.only {w w' : World} {p : Nat} {D : Dr} {F G : Nat → Prop} (h : DriveAt w p D F) (hg : Only G w w') (hn : ∀ k, k < w.heap.size → F k → ¬ G k) : DriveAt w' p D F := by
  obtain ⟨sb, pb, mb, hd, hin, hf⟩ := h
  exact ⟨sb, pb, mb, hd, hin.only hg (fun k hk => hn k (hin.lt k hk) (hf k hk)), hf⟩
theorem DriveAt.below {w w' : World} {p : Nat} {D : Dr} {F : Nat → Prop} (h : DriveAt w p D F) (hb : Below w.heap.size w w') : DriveAt w' p D F :=
  h.only (Only.of_below hb (fun _ => False)) (fun _ _ _ hf => hf)
theorem DriveAt.mono {w : World} {p : Nat} {D : Dr} {F G : Nat → Prop} (h : DriveAt w p D F) (hs : ∀ k, F k → G k) : DriveAt w p D G := by
  obtain ⟨sb, pb, mb, hd, hin, hf⟩ := h
  exact ⟨sb, pb, mb, hd, hin, fun k hk => hs k (hf k hk)⟩
theorem DriveAt.ok {w : World} {p : Nat} {D : Dr} {F : Nat → Prop} (h : DriveAt w p D F) : D.Ok := by obtain ⟨_, _, _, _, hin, _⟩ := h; exact hin.ok
theorem DriveAt.lt {w : World} {p : Nat} {D : Dr} {F : Nat → Prop} (h : DriveAt w p D F) : p < w.heap.size := by obtain ⟨_, _, _, _, hin, _⟩ := h; exact hin.lt p (.inl rfl)
theorem DriveAt.mine {w : World} {p : Nat} {D : Dr} {F : Nat → Prop} (h : DriveAt w p D F) : F p := by obtain ⟨_, _, _, _, hin, hf⟩ := h; exact hf p (.inl rfl)
end Go.Proofs.Ytgkhnfchohcjeaa
