/- shown of layer 11: a page is saved and is there then. -/
import Derived.Test.YtlcoibfpebggoaaGreatDoorMPgC
import Derived.Test.YtlcoibfpebggoaaGreatDoorPgBits
import Derived.Test.YtlcoibfpebggoaaGreatDoorMDrvB
import Derived.Test.YtlcoibfpebggoaaGreatDoorKitRet
import Derived.BigQuiet
namespace Go.Proofs.YtlcoibfpebggoaaGreatDoor
open Go.RowKit

/-- what is asked of shown -/
def Shown : Prop := ∀ w, Calls Tryz.prog 7 #[] w fun e w' => e = .returned (.bool true) ∧ Below w.heap.size w w'
set_option maxRecDepth 100000 in
set_option maxHeartbeats 1000000 in
theorem shown11 (P : PgDoes) : Shown := by
  intro w
  have hb := fun W => bits_any ⟨#[97]⟩ (by decide) W
  have h8 := bits8_size ⟨#[97]⟩
  obtain ⟨t, ht⟩ : ∃ t, t = bits8 ⟨#[97]⟩ := ⟨_, rfl⟩
  rw [← ht] at hb h8
  obtain ⟨s1, s2, s3, s4⟩ := (Dr.Still.fresh 4).saved (by decide) (p := ⟨5, t⟩) (by show (5 : Nat) < _; decide) h8
  have hf : (Dr.fresh 4).Fit11 := ⟨rfl, by decide, fun _ => by show (0 : Nat) < 1000000; decide⟩
  obtain ⟨D, hD⟩ : ∃ D, D = (Dr.fresh 4).pgSaveD ⟨5, t⟩ := ⟨_, rfl⟩
  rw [← hD] at s2 s3 s4
  have HB : Hid _ := hb
  have S2 : Hid (D.Still 4) := s2
  have S3 : Hid (D.pgE = 0 ∧ D.pgS = ⟨5, t⟩) := ⟨s3, s4⟩
  have HS : Hid (∀ {w : World} {r : Nat} {F : Nat → Prop}, (drvT r (Dr.fresh 4)).is w F → Calls Tryz.prog 14 #[.pointer (some ⟨r, 0, none⟩), .agg #[.int .u64 5, .string t]] w fun e w' => e = .returned (.int .i64 0) ∧ (drvT r D).is w' (Plus F w.heap.size) ∧ Only F w w') := fun h => by
    have := P.save h hf ⟨5, t⟩ (by show (5 : Nat) < _; decide)
    rw [s1, ← hD] at this
    exact this
  clear s1 s2 s3 s4 hf hD h8 ht hb
  go_enter Tryz.func7, Tryz.ntmps7
  go_wp2_with fail
  refine (new_yes 4 (by decide) (by decide) _).mono ?_
  rintro e w1 ⟨p, rfl, hd, b1⟩
  have HD1 : Hid (DriveAt w1 p (Dr.fresh 4) (fun k => w.heap.size ≤ k)) := hd
  have B1 : Hid (Below w.heap.size w w1) := b1
  clear hd b1
  go_wp2_with fail
  refine (HB.out _).mono ?_
  rintro e w1 ⟨rfl, rfl⟩
  go_wp2_with fail
  refine (HS.out HD1.out).mono ?_
  rintro e w2 ⟨rfl, hd2, o2⟩
  have HD2 : Hid ((drvT p D).is w2 (Plus (fun k => w.heap.size ≤ k) w1.heap.size)) := hd2
  have B2 : Hid (Below w.heap.size w w2) := B1.out.trans (o2.below (fun _ h => h) B1.out.size)
  clear hd2 o2
  go_wp2_with fail
  refine (P.load HD2.out S2.out.live.goes).mono ?_
  rw [S3.out.1, S3.out.2]
  rintro e w3 ⟨rfl, b3⟩
  have B3 : Hid (Below w.heap.size w w3) := below2 B2.out b3
  clear b3
  unfold pgV
  go_wp2_with fail
  have c0 : (w3.alloc (.cells #[.int .u64 5, .string t] 24)).cell? ⟨w3.heap.size, 0, none⟩ = some (.int .u64 5) := by rw [World.cell?_alloc_mark]; rfl
  have c1 : (w3.alloc (.cells #[.int .u64 5, .string t] 24)).cell? ⟨w3.heap.size, 1, none⟩ = some (.string t) := by rw [World.cell?_alloc_mark]; rfl
  have B4 : Hid (Below w.heap.size w (w3.alloc (.cells #[.int .u64 5, .string t] 24))) := B3.out.alloc B3.out.size _
  generalize World.alloc w3 _ = w4 at c0 c1 B4 ⊢
  go_quiet ((go_at_call 24; refine Calls.quiet_of_same (HB.out _)))
  go_wp2
  go_ret
  exact ⟨rfl, below_drewN B4.out _⟩
end Go.Proofs.YtlcoibfpebggoaaGreatDoor
