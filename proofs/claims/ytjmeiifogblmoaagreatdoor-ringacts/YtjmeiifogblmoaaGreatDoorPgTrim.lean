/- The parts of a page's sector as the program takes them: by a prefix that is cut off, by parts of texts, and by bytes 0 that are trimmed: plain. -/
import Derived.Lib.Strings
import Derived.Lib.TrimByte
import Derived.Test.YtjmeiifogblmoaaGreatDoorMPlA
namespace Go.Proofs.YtjmeiifogblmoaaGreatDoor

namespace Pg
theorem dropWhile_nil {α : Type} (p : α → Bool) : ∀ l : List α, l.dropWhile p = [] ↔ l.all p = true
  | [] => by simp
  | x :: l => by
    cases h : p x with
    | true => rw [List.dropWhile_cons, h, if_pos rfl, List.all_cons, h, Bool.true_and]; exact dropWhile_nil p l
    | false => simp [h]
theorem dropWhile_head {α : Type} (p : α → Bool) : ∀ (l : List α) (x : α) (r : List α), l.dropWhile p = x :: r → p x = false
  | [], _, _, h => by simp at h
  | y :: l, x, r, h => by
    cases hy : p y with
    | true => rw [List.dropWhile_cons, hy, if_pos rfl] at h; exact dropWhile_head p l x r h
    | false => rw [List.dropWhile_cons, hy] at h; simp at h; rw [← h.1]; exact hy
/-- nothing is left of a text that is trimmed just where all its bytes are those -/
theorem trim_nil (l : List UInt8) (c : UInt8) : Lib.trimB l c = [] ↔ l.all (· == c) = true := by
  unfold Lib.trimB Lib.trimLeftB Lib.trimRightB
  rw [dropWhile_nil]
  constructor
  · intro h
    cases hd : l.reverse.dropWhile (· == c) with
    | nil =>
      have h2 := (dropWhile_nil _ _).1 hd
      rw [List.all_reverse] at h2; exact h2
    | cons x r =>
      have hx := dropWhile_head _ _ _ _ hd
      rw [hd, List.all_reverse, List.all_cons] at h
      simp only [hx, Bool.false_and] at h
      cases h
  · intro h
    have h2 : l.reverse.dropWhile (· == c) = [] := (dropWhile_nil _ _).2 (by rw [List.all_reverse]; exact h)
    rw [h2]; rfl
theorem mk_list (l : List UInt8) : (⟨l.toArray⟩ : ByteArray).data.toList = l := by simp
theorem mk_size (l : List UInt8) : (⟨l.toArray⟩ : ByteArray).size = l.length := by rw [← list_size, mk_list]
theorem has_magic (t : ByteArray) : Lib.hasPrefix t.data.toList [82, 86, 84, 66] = decide (t.extract 0 4 = magicB) := by
  unfold Lib.hasPrefix
  rw [Bool.eq_iff_iff, List.isPrefixOf_iff_prefix, decide_eq_true_iff, List.prefix_iff_eq_take]
  have e : (t.extract 0 4).data.toList = t.data.toList.take 4 := by rw [extract_list]; rfl
  constructor
  · intro hp; exact eq_of_list (by rw [e, ← show _ = t.data.toList.take 4 from hp]; rfl)
  · intro hp; rw [hp] at e; exact e
/-- the part behind the first four bytes -/
def tail4 (t : ByteArray) : ByteArray := ⟨(t.data.toList.drop 4).toArray⟩
theorem tail4_size {t : ByteArray} (h : t.size = 60) : (tail4 t).size = 56 := by unfold tail4; rw [mk_size, List.length_drop, list_size, h]
theorem tail4_at (t : ByteArray) (i j : Nat) : (tail4 t).extract i j = t.extract (4 + i) (4 + j) := by
  apply eq_of_list
  rw [extract_list, extract_list]
  unfold tail4
  rw [mk_list, List.drop_drop, show 4 + j - (4 + i) = j - i by omega]
theorem part_part (t : ByteArray) (i j k l : Nat) (hl : i + l ≤ j) : (t.extract i j).extract k l = t.extract (i + k) (i + l) := by
  apply eq_of_list
  rw [extract_list, extract_list, extract_list, List.drop_take, List.drop_drop, List.take_take, show i + l - (i + k) = l - k by omega, show min (l - k) (j - i - k) = l - k by omega]
theorem cut_magic {t : ByteArray} (h : Lib.hasPrefix t.data.toList [82, 86, 84, 66] = true) : (⟨(Lib.trimPrefix t.data.toList [82, 86, 84, 66]).toArray⟩ : ByteArray) = tail4 t := by
  unfold Lib.trimPrefix tail4
  rw [if_pos h]; rfl
theorem rest_trim {t : ByteArray} (h : t.size = 60) : ((⟨(Lib.trimB (t.extract 20 60).data.toList 0).toArray⟩ : ByteArray) = ⟨#[]⟩) ↔ restB t = true := by
  have e : (t.extract 20 60).data.toList = t.data.toList.drop 20 := by
    rw [extract_list]; exact List.take_of_length_le (by rw [List.length_drop, list_size, h]; decide)
  rw [e]
  unfold restB
  rw [← trim_nil]
  constructor
  · intro hx
    have := congrArg (fun b : ByteArray => b.data.toList) hx
    simpa using this
  · intro hx; rw [hx]
end Pg
end Go.Proofs.YtjmeiifogblmoaaGreatDoor
