/- The walks of the document's own keep and Flush, as DriveDead begins with them. -/
import Derived.Test.YtpflfdbkndomfaaRefCrash
namespace Go.Proofs.Ytpflfdbkndomfaa
open Go.RowKit Go.Maps

section
variable {w : World} {B rp : Nat} {vS vW vP : Value} {S : List ByteArray} {Wl : List Value} {Pl : List Bool} {gone cut : Bool} {left : Int}
set_option maxRecDepth 100000 in
set_option maxHeartbeats 1000000 in
theorem refKeep0 (h : RefIn w B rp vS vW vP S Wl Pl gone cut left) (i : Nat) (hi : i < Wl.length) : Calls Try.prog 40 #[.pointer (some ⟨rp, 0, none⟩), .int .i64 (i : Nat), .int .i64 0] w fun e w' => e = .returned (.tuple #[]) ∧ RefIn w' B rp vS vW vP S (Wl.set i nilS) Pl gone cut left ∧ Only (RFoot rp vS vW vP) w w' := by
  obtain ⟨_, c1, _⟩ := h.cell
  obtain ⟨gw, cw, ew, _, hgw, hcapw, hmaxw, hcw, hfw⟩ := ownsRow_at h.writes hi
  obtain ⟨u, hu⟩ : ∃ u, Wl[i]? = some u := ⟨_, List.getElem?_eq_getElem hi⟩
  rw [hu] at hcw
  rw [ew] at c1
  unfold maxLen at hmaxw
  have hput := h.putW (g := gw) (by rw [ew]; rfl) i nilS
  have hO : Only (RFoot rp vS vW vP) w (w.setCell ⟨gw, i, none⟩ nilS) := hput.2.mono (fun k hk => by cases hk; exact .inr (.inr (.inl (by rw [ew]; rfl))))
  have H : Hid (RefIn (w.setCell ⟨gw, i, none⟩ nilS) B rp vS vW vP S (Wl.set i nilS) Pl gone cut left ∧ Only (RFoot rp vS vW vP) w (w.setCell ⟨gw, i, none⟩ nilS)) := ⟨hput.1, hO⟩
  obtain ⟨n, hn⟩ : ∃ n, n = Wl.length := ⟨_, rfl⟩
  rw [← hn] at c1 hi hcapw
  clear h ew hput hO hu hn
  go_enter Try.func40, Try.ntmps40
  go_wp2
  go_end0
  exact ⟨rfl, H.out⟩
set_option maxRecDepth 100000 in
set_option maxHeartbeats 2000000 in
theorem refKeep1 (h : RefIn w B rp vS vW vP S Wl Pl gone cut left) (i : Nat) (hi : i < Wl.length) (hiS : i < S.length) {g cp : Nat} {s : ByteArray} (hx : Wl[i]? = some (.slice (some ⟨g, 0, none⟩) 1 cp)) (_hcp : 1 ≤ cp) (_hcm : cp ≤ maxLen) (hc : w.cell? ⟨g, 0, none⟩ = some (.string s)) :
    Calls Try.prog 40 #[.pointer (some ⟨rp, 0, none⟩), .int .i64 (i : Nat), .int .i64 1] w fun e w' => e = .returned (.tuple #[]) ∧ RefIn w' B rp vS vW vP (S.set i s) (Wl.set i nilS) Pl gone cut left ∧ Only (RFoot rp vS vW vP) w w' := by
  obtain ⟨c0, c1, _⟩ := h.cell
  obtain ⟨gw, cw, ew, _, hgw, hcapw, hmaxw, hcw, hfw⟩ := ownsRow_at h.writes hi
  obtain ⟨gs, cs, es, _, hgs, hcaps, hmaxs, hcs, hfs⟩ := ownsRow_at h.safes hiS
  rw [hx] at hcw
  obtain ⟨u, hu⟩ : ∃ u, (S.map Value.string)[i]? = some u := ⟨_, List.getElem?_eq_getElem (by simpa using hiS)⟩
  rw [hu] at hcs
  rw [ew] at c1
  rw [es] at c0
  unfold maxLen at hmaxw hmaxs _hcm
  have hputS := h.putS (g := gs) (by rw [es]; rfl) i s
  have R1 : Hid (RefIn (w.setCell ⟨gs, i, none⟩ (.string s)) B rp vS vW vP (S.set i s) Wl Pl gone cut left) := hputS.1
  have O1 : Hid (Only (One gs) w (w.setCell ⟨gs, i, none⟩ (.string s))) := hputS.2
  have EW : Hid (vW = .slice (some ⟨gw, 0, none⟩) Wl.length cw) := ew
  have ES : Hid (vS = .slice (some ⟨gs, 0, none⟩) S.length cs) := es
  have HX : Hid (Wl[i]? = some (.slice (some ⟨g, 0, none⟩) 1 cp)) := hx
  have HI : Hid (i < Wl.length) := hi
  obtain ⟨n, hn⟩ : ∃ n, n = Wl.length := ⟨_, rfl⟩
  rw [← hn] at c1 hi hcapw
  have HN : Hid (n = Wl.length) := hn
  obtain ⟨m, hm⟩ : ∃ m, m = S.length := ⟨_, rfl⟩
  rw [← hm] at c0 hiS hcaps
  clear h ew es hputS hu hn hm hx
  go_enter Try.func40, Try.ntmps40
  go_wp2_with fail
  go_region
  have R2 : RefIn (w.setCell ⟨gs, i, none⟩ (.string s)).drew B rp vS vW vP (S.set i s) Wl Pl gone cut left := R1.out.only (Only.drew (fun _ => False) _) (fun _ _ hf => hf)
  have O2 : Only (RFoot rp vS vW vP) w (w.setCell ⟨gs, i, none⟩ (.string s)).drew := (O1.out.mono (fun k hk => by cases hk; exact .inr (.inl (by rw [ES.out]; rfl)))).then (Only.drew _ _)
  generalize hW1 : (w.setCell ⟨gs, i, none⟩ (.string s)).drew = w1 at R2 O2 ⊢
  clear hW1
  obtain ⟨_, c1', _⟩ := R2.cell
  obtain ⟨hgw', hcw', hfw'⟩ := row_head R2.writes EW.out (j := i) HI.out
  rw [HX.out] at hcw'
  rw [EW.out, ← HN.out] at c1'
  have hput := R2.putW (g := gw) (by rw [EW.out]; rfl) i nilS
  have hO : Only (RFoot rp vS vW vP) w (w1.setCell ⟨gw, i, none⟩ nilS) := O2.then (hput.2.mono (fun k hk => by cases hk; exact .inr (.inr (.inl (by rw [EW.out]; rfl)))))
  have H : Hid (RefIn (w1.setCell ⟨gw, i, none⟩ nilS) B rp vS vW vP (S.set i s) (Wl.set i nilS) Pl gone cut left ∧ Only (RFoot rp vS vW vP) w (w1.setCell ⟨gw, i, none⟩ nilS)) := ⟨hput.1, hO⟩
  clear hput hO R2 O2
  go_wp2
  go_end0
  exact ⟨rfl, H.out⟩
/-- what is safe, what is written, ahead of the k-th round of such a Flush -/
def sAt (S : List ByteArray) (s : ByteArray) (k : Nat) : List ByteArray := if k ≤ 2 then S else S.set 2 s
def wAt (v : Value) (k : Nat) : List Value := if k ≤ 2 then oneW v else List.replicate 5 nilS
theorem at_other (S : List ByteArray) (s : ByteArray) (v : Value) (k : Nat) (hk : k < 5) (h2 : k ≠ 2) : (wAt v k)[k]? = some nilS ∧ (sAt S s k = sAt S s (k + 1) ∧ (wAt v k).set k nilS = wAt v (k + 1)) := by
  have : k = 0 ∨ k = 1 ∨ k = 3 ∨ k = 4 := by omega
  rcases this with rfl | rfl | rfl | rfl <;> exact ⟨rfl, rfl, rfl⟩
set_option maxRecDepth 100000 in
set_option maxHeartbeats 2000000 in
/-- Flush where the third of five sectors has one write -/
theorem refFlush2 {g cp : Nat} (h : RefIn w B rp vS vW vP S (oneW (.slice (some ⟨g, 0, none⟩) 1 cp)) Pl false false left) (hS : S.length = 5) {s : ByteArray} (hcp : 1 ≤ cp) (hcm : cp ≤ maxLen) (hc : w.cell? ⟨g, 0, none⟩ = some (.string s)) (hgF : ¬ RFoot rp vS vW vP g) (hg : g < w.heap.size) :
    Calls Try.prog 21 #[.pointer (some ⟨rp, 0, none⟩)] w fun e w' => e = .returned (.int .i64 0) ∧ RefIn w' B rp vS vW vP (S.set 2 s) (List.replicate 5 nilS) Pl false false left ∧ Only (RFoot rp vS vW vP) w w' := by
  have ho := refOff_alive h
  have hu := refUse_alive h
  obtain ⟨_, c1, _, c3, _⟩ := h.cell
  obtain ⟨gw, cw, ew, _, _, hcapw, hmaxw, _, _⟩ := ownsRow_at h.writes (j := 0) (by simp [oneW])
  rw [show (oneW (.slice (some ⟨g, 0, none⟩) 1 cp)).length = 5 from rfl] at ew hcapw
  unfold maxLen at hmaxw
  have H : Hid (RefIn w B rp vS vW vP S (oneW (.slice (some ⟨g, 0, none⟩) 1 cp)) Pl false false left) := h
  have EW : Hid (vW = .slice (some ⟨gw, 0, none⟩) 5 cw) := ew
  have HC : Hid (w.cell? ⟨g, 0, none⟩ = some (.string s) ∧ ¬ RFoot rp vS vW vP g ∧ g < w.heap.size ∧ S.length = 5) := ⟨hc, hgF, hg, hS⟩
  clear h ew c1 hc hgF hg hS
  go_enter Try.func21, Try.ntmps21
  go_wp2_with (first
    | (go_at_call 39; refine ho.mono ?_; rintro e w' ⟨rfl, hw'⟩; replace hw' := hw'.symm; subst hw')
    | (go_at_call 38; refine hu.mono ?_; rintro e w' ⟨rfl, hw'⟩; replace hw' := hw'.symm; subst hw'))
  go_loopg [3] 5 (fun gg i wr => ∃ k : Nat, k ≤ 5 ∧ gg = 5 - k ∧ i = .int .i64 k ∧ RefIn wr B rp vS vW vP (sAt S s k) (wAt (.slice (some ⟨g, 0, none⟩) 1 cp) k) Pl false false left ∧ Only (RFoot rp vS vW vP) w wr)
  case atStart => exact ⟨0, Nat.zero_le _, rfl, rfl, H.out, Only.refl _ _⟩
  case round =>
    obtain ⟨k, hk, rfl, rfl, hR, hO⟩ := hrel
    have c1r := hR.cell.2.1
    rw [EW.out] at c1r
    have hcr : wr.cell? ⟨g, 0, none⟩ = some (.string s) := (World.cell?_of_block (a := ⟨g, 0, none⟩) (hO.block g HC.out.2.2.1 HC.out.2.1)).trans HC.out.1
    have hlS : (sAt S s k).length = 5 := by unfold sAt; split <;> simp [HC.out.2.2.2]
    have hlW : (wAt (.slice (some ⟨g, 0, none⟩) 1 cp) k).length = 5 := by unfold wAt; split <;> simp [oneW]
    by_cases hlt : k < 5
    · obtain ⟨_, hcw, _⟩ := row_head hR.writes EW.out (j := k) (by omega)
      by_cases h2 : k = 2
      · have e1 : (wAt (.slice (some ⟨g, 0, none⟩) 1 cp) k)[k]? = some (.slice (some ⟨g, 0, none⟩) 1 cp) := by rw [h2]; rfl
        have hkeep := refKeep1 hR k (by omega) (by omega) e1 hcp hcm hcr
        rw [e1] at hcw
        have e2 : Hid ((sAt S s k).set k s = sAt S s (k + 1) ∧ (wAt (.slice (some ⟨g, 0, none⟩) 1 cp) k).set k nilS = wAt (.slice (some ⟨g, 0, none⟩) 1 cp) (k + 1)) := by rw [h2]; exact ⟨rfl, rfl⟩
        have HO : Hid (Only (RFoot rp vS vW vP) w wr) := hO
        clear hR hO h2 e1 hlS hlW hcr
        go_wp2_with (go_at_call 40; refine hkeep.mono ?_; rintro e w' ⟨rfl, hR', hO'⟩; rw [e2.out.1, e2.out.2] at hR'; have RR : Hid (RefIn w' B rp vS vW vP (sAt S s (k + 1)) (wAt (.slice (some ⟨g, 0, none⟩) 1 cp) (k + 1)) Pl false false left ∧ Only (RFoot rp vS vW vP) w w') := ⟨hR', HO.out.then hO'⟩; clear hR' hO' hkeep)
        go_roundg (5 - (k + 1))
        case measure => omega
        case rel => exact ⟨k + 1, by omega, rfl, by go_num, RR.out⟩
      · obtain ⟨e1, e3⟩ := at_other S s (.slice (some ⟨g, 0, none⟩) 1 cp) k hlt h2
        have hkeep := refKeep0 hR k (by omega)
        rw [e1] at hcw
        have e2 : Hid (sAt S s k = sAt S s (k + 1) ∧ (wAt (.slice (some ⟨g, 0, none⟩) 1 cp) k).set k nilS = wAt (.slice (some ⟨g, 0, none⟩) 1 cp) (k + 1)) := e3
        have hcw' : wr.cell? ⟨gw, k, none⟩ = some (.slice none 0 0) := hcw
        have HO : Hid (Only (RFoot rp vS vW vP) w wr) := hO
        clear hR hO h2 e1 e3 hlS hlW hcr hcw
        go_wp2_with (go_at_call 40; refine hkeep.mono ?_; rintro e w' ⟨rfl, hR', hO'⟩; rw [e2.out.1, e2.out.2] at hR'; have RR : Hid (RefIn w' B rp vS vW vP (sAt S s (k + 1)) (wAt (.slice (some ⟨g, 0, none⟩) 1 cp) (k + 1)) Pl false false left ∧ Only (RFoot rp vS vW vP) w w') := ⟨hR', HO.out.then hO'⟩; clear hR' hO' hkeep)
        go_roundg (5 - (k + 1))
        case measure => omega
        case rel => exact ⟨k + 1, by omega, rfl, by go_num, RR.out⟩
    · have hk5 : k = 5 := by omega
      subst hk5
      have RR : Hid (RefIn wr B rp vS vW vP (S.set 2 s) (List.replicate 5 nilS) Pl false false left ∧ Only (RFoot rp vS vW vP) w wr) := ⟨hR, hO⟩
      clear hR hO hlS hlW
      go_wp2
      go_ret
      exact ⟨rfl, RR.out⟩
end
end Go.Proofs.Ytpflfdbkndomfaa
