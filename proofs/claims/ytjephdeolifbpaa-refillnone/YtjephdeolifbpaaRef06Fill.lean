/- The walk of the document's own Fill. -/
import Derived.Test.YtjephdeolifbpaaRef06One
import Derived.Test.YtjephdeolifbpaaRef06Same
import Derived.Test.YtjephdeolifbpaaKitOuts
import Derived.Test.YtjephdeolifbpaaKitRound
namespace Go.Proofs.Ytjephdeolifbpaa
open Go.RowKit

set_option maxRecDepth 100000 in
set_option maxHeartbeats 16000000 in
theorem refFill_ok (n : Nat) (f : Nat → ByteArray) (hf : Fits 1048576 n f) (a : Option Addr) (cap : Nat) (ln : Nat) (L : Nat → Int) (b : Option Addr) (capb : Nat) (hcapb : ln ≤ capb) (w : World) (hr : RowS w a n f) (hl : RowI .i64 w b ln L) (hmay : Rf.mayF n f ln L = 0) :
    Calls Try.prog 12 #[.slice a n cap, .slice b ln capb] w fun e w' =>
      (∃ g c, e = .returned (.tuple #[.slice g n c, .int .i64 0]) ∧ RowS w' g n (Rf.fillF n f ln L) ∧ n ≤ c ∧ (∀ x, g = some x → w.heap.size ≤ x.block)) ∧ Below w.heap.size w w' := by
  obtain ⟨n4, n10, ln2, hok, s, hs4, hsz, hkept⟩ := Rf.mayF_tells hmay
  have hMAY := May_any n f (by omega) hf a cap ln L (by omega) b capb hcapb w hr hl
  rw [hmay] at hMAY
  have HR : Hid (RowS w a n f) := hr
  have HL : Hid (RowI .i64 w b ln L) := hl
  have HF : Hid (Fits 1048576 n f) := hf
  have HOK : Hid (Rf.okL n ln L = true) := hok
  have HKEPT : Hid (∀ i, i < n → Rf.hasF ln L (i : Int) = false → (f i).size = s) := hkept
  have HSZ : ∀ W, Below w.heap.size w W → Calls Try.prog 22 #[.slice a n cap, .slice b ln capb] W fun e w' => e = .returned (.int .i64 (s : Int)) ∧ w' = W := fun W h => by
    have := size_any n f (by omega) hf a cap ln L (by omega) b capb W (hr.below h) (hl.below h)
    rw [hsz] at this; exact this
  have HFF : Hid (∀ i, Rf.fillF n f ln L i = ⟨(bl s fun t => Rf.rowsR n f ln L t i).toArray⟩) := fun i => by unfold Rf.fillF; rw [hsz]; rfl
  have HM : Hid (n - 2 + 2 = n) := by show _ = _; omega
  have m16 : n - 2 < 16 := by omega
  have m1000 : n - 2 ≤ 1000 := by omega
  have HMX : Hid (Try.prog.follows .mixedOrders = true) := by show _ = _; kernel_rfl
  obtain ⟨i0, hi, hz0, hz1, hz2⟩ := info_parts (show (Try.prog.info? 5).map (fun i => (i.zero, i.size, i.bytes)) = some (some (.int .u8 0), 1, 1) from info_u8)
  obtain ⟨j0, hj, jz0, jz1, jz2⟩ := info_parts info_bytes
  obtain ⟨R, hRR⟩ : ∃ R, Rf.rowsR n f ln L = R := ⟨_, rfl⟩
  have HRR : Hid (Rf.rowsR n f ln L = R) := hRR
  rw [hRR] at HFF
  clear hr hl hf hok hkept hmay hsz hRR
  go_enter Try.func12, Try.ntmps12
  go_wp2_with fail
  refine hMAY.mono ?_
  rintro e w1 ⟨rfl, b1⟩
  have B1 : Hid (Below w.heap.size w w1) := b1
  clear hMAY b1
  go_wp2
  go_loopg [7, 8] n (fun gg u i wr => ∃ (j go co : Nat) (p c : Nat → Nat), j ≤ n ∧ gg = n - j ∧ u = .slice (some ⟨go, 0, none⟩) j co ∧ i = .int .i64 j ∧ Outs wr w1.heap.size j go co p c (fun _ => 0) R ∧ Below w1.heap.size w1 wr)
  case atStart => exact ⟨0, w1.heap.size, 0, fun _ => 0, fun _ => 0, Nat.zero_le _, rfl, rfl, rfl, Outs.start _ _ _ _ _, (Below.refl _ _).alloc (Nat.le_refl _) _⟩
  case round =>
    obtain ⟨j, go, co, p, c, hjn, rfl, rfl, rfl, hO, hb⟩ := hrel
    have OUT : Hid (Outs wr w1.heap.size j go co p c (fun _ => 0) R) := hO
    have HB : Hid (Below w1.heap.size w1 wr) := hb
    have hsz := hb.size
    clear hO hb
    by_cases hjl : j < n
    · have t1 : True := trivial
      have CELL : Hid (∀ (t : Nat) (u : Value), [Value.slice (some ⟨wr.heap.size, 0, none⟩) 0 0][t]? = some u → ((wr.alloc (.cells #[] 5)).alloc (.cells #[.slice (some ⟨wr.heap.size, 0, none⟩) 0 0] 36)).cell? ((⟨wr.heap.size + 1, 0, none⟩ : Addr).add t) = some u) := by
        have h := cell_one_new (wr.alloc (.cells #[] 5)) (.slice (some ⟨wr.heap.size, 0, none⟩) 0 0) 36
        rw [World.size_alloc] at h; exact h
      go_wp2_with (at_builtin; have _t := t1; refine wpList_append_lies _ rfl _ _ 43 rfl w1.heap.size 36 j0 (.slice none 0 0) 1 24 Try.underlying43 hj jz0 jz1 jz2 rfl (by decide) (.slice (some ⟨go, 0, none⟩) j co) j (headVals j p c fun _ => 0) rfl ((OUT.out.out.alloc _).alloc _) ⟨wr.heap.size + 1, 0, none⟩ 1 1 [.slice (some ⟨wr.heap.size, 0, none⟩) 0 0] rfl rfl CELL.out (by simp [Value.oneCell']) (by decide) (by unfold maxLen; omega) (by omega) (by simp; omega) _ rfl ?_; intro g3 c3 w3 own3 grow3 lies3 _; (have M3 : Hid (Outs w3 w1.heap.size (j + 1) g3 c3 (Gfm.upd p j wr.heap.size) (Gfm.upd c j 0) (fun _ => 0) R) := (Outs.more OUT.out hsz rfl own3 grow3).turn fun i _ => (by unfold Gfm.upd; split <;> rfl)); (have HB3 : Hid (Below w1.heap.size w1 w3) := ((HB.out.alloc hsz _).alloc (by simp; omega) _).grown grow3 (by simp; omega) (fun t ht => by have := OUT.out.outBlock.1; have h : go = t := (by simpa [Value.ownBlock] using ht); omega)); clear own3 grow3 lies3 t1)
      go_roundg (n - (j + 1))
      case measure => omega
      case rel => exact ⟨j + 1, g3, c3, _, _, by omega, rfl, rfl, by go_num, M3.out, HB3.out⟩
    · have hjj : j = n := by omega
      subst hjj
      go_wp2
      go_loopg [9, 10, 11] s (fun gg u _ _ wr => ∃ (k : Nat) (p c : Nat → Nat), k ≤ s ∧ gg = s - k ∧ u = .int .i64 k ∧ Outs wr w1.heap.size j go co p c (fun _ => k) R ∧ Below w1.heap.size w1 wr)
      case atStart => exact ⟨0, p, c, Nat.zero_le _, rfl, rfl, OUT.out, HB.out⟩
      case round =>
        obtain ⟨k, p, c, hk, rfl, rfl, hO, hb⟩ := hrel
        have OUT : Hid (Outs wr w1.heap.size j go co p c (fun _ => k) R) := hO
        have HB : Hid (Below w1.heap.size w1 wr) := hb
        have hsz := hb.size
        have LOW : Hid (Below w.heap.size w wr) := B1.out.trans (hb.mono B1.out.size)
        have hZ := HSZ wr LOW.out
        clear hO hb
        go_wp2_with fail
        refine hZ.mono ?_
        rintro e w' ⟨rfl, hw⟩
        subst w'
        clear hZ
        by_cases hks : k < s
        · have hAT := at_any j f (by omega) a cap ln L (by omega) b capb k s (by omega) hks HKEPT.out wr (HR.out.below LOW.out) (HL.out.below LOW.out)
          go_wp2_with fail
          refine hAT.mono ?_
          rintro e w2 ⟨⟨gb, cb, rfl, ob⟩, b2⟩
          clear hAT
          have hONE := one_any (j - 2) m1000 j HM.out (Rf.atB f ln L k) ln L ln2 HOK.out m16 gb cb b capb wr w2 b2 ob (HL.out.below LOW.out)
          have HVR : Rf.fillB (j - 2) (Rf.atB f ln L k) (Rf.lostD (j - 2) ln L) (Rf.hasF ln L ((j - 2 : Nat) : Int)) (Rf.hasF ln L (((j - 2 : Nat) : Int) + 1)) = R k := by rw [← HRR.out]; rfl
          rw [HVR] at hONE
          clear ob HVR
          go_wp2_with fail
          refine hONE.mono ?_
          rintro e w3 ⟨rfl, ob3, b3⟩
          clear hONE b2
          have gbl : Hid (wr.heap.size ≤ gb) := owns_low ob3
          have RB : Hid (RowB w3 gb j (R k)) := RowB.of_owns ob3
          have OUT3 : Hid (Outs w3 w1.heap.size j go co p c (fun _ => k) R) := OUT.out.below b3
          have HB3 : Hid (Below w1.heap.size w1 w3) := HB.out.trans (b3.mono hsz)
          have NE3 : Hid (∀ t, t < j → p t ≠ gb) := fun t ht => by have := (OUT.out.block ht).2; have := gbl.out; omega
          have NEO : Hid (go ≠ gb) := by have := OUT.out.outBlock.2; have := gbl.out; show go ≠ gb; omega
          obtain ⟨V, hV⟩ : ∃ V, R k = V := ⟨_, rfl⟩
          have HV : Hid (R k = V) := hV
          rw [hV] at RB
          clear ob3 b3 hV
          generalize hn' : j = n at *
          go_wp2
          go_loopg [11] n (fun gg u wr => ∃ (j : Nat) (p c : Nat → Nat), j ≤ n ∧ gg = n - j ∧ u = .int .i64 j ∧ Outs wr w1.heap.size n go co p c (fun i => if i < j then k + 1 else k) R ∧ RowB wr gb n V ∧ (∀ t, t < n → p t ≠ gb) ∧ Below w1.heap.size w1 wr)
          case atStart => exact ⟨0, p, c, Nat.zero_le _, rfl, rfl, OUT3.out.turn fun i _ => (if_neg (Nat.not_lt_zero _)).symm, RB.out, NE3.out, HB3.out⟩
          case round =>
            obtain ⟨j, p, c, hjn, rfl, rfl, hO, hRB, hNE, hb⟩ := hrel
            obtain ⟨KK, hKK⟩ : ∃ KK : Nat → Nat, KK = fun i => if i < j then k + 1 else k := ⟨_, rfl⟩
            have HKK : Hid (∀ i, KK i = if i < j then k + 1 else k) := fun i => by rw [hKK]
            rw [← hKK] at hO
            have OUT : Hid (Outs wr w1.heap.size n go co p c KK R) := hO
            have RB : Hid (RowB wr gb n V) := hRB
            have NEB : Hid (∀ t, t < n → p t ≠ gb) := hNE
            have HB : Hid (Below w1.heap.size w1 wr) := hb
            have hsz := hb.size
            clear hO hRB hNE hb hKK
            by_cases hjn : j < n
            · have hKj : KK j = k := by rw [HKK.out]; exact if_neg (Nat.lt_irrefl _)
              have HKJ : Hid (KK j = k) := hKj
              have hk4 : KK j ≤ 4096 := by omega
              obtain ⟨v, hv⟩ : ∃ v, V j = v := ⟨_, rfl⟩
              have HVV : Hid (V j = v) := hv
              have HVJ : Hid (R (KK j) j = v) := by show _ = _; rw [hKj, HV.out]; exact hv
              have hcb := RB.out j hjn
              rw [hv] at hcb
              have hco := OUT.out.cell hjn
              have OUTj : Hid (wr.drew.ownsRow w1.heap.size 5 1 (.slice (some ⟨p j, 0, none⟩) (KK j) (c j)) (KK j) (byteVals (bl (KK j) fun t => R t j))) := (OUT.out.rows j hjn).drew
              have hbW : Below wr.heap.size wr (wr.drew.alloc (.cells #[.int .u8 (v.toNat : Int)] 5)) := (Below.refl _ wr).drew.alloc (Nat.le_refl _) _
              have RBW : Hid (RowB (wr.drew.alloc (.cells #[.int .u8 (v.toNat : Int)] 5)) gb n V) := RB.out.below hbW
              have hS0 : (fun W : World => W.cell? ⟨gb, j, none⟩ = some (.int .u8 (v.toNat : Int))) wr.drew := hcb
              have hS1 : (wr.drew.alloc (.cells #[.int .u8 (v.toNat : Int)] 5)).cell? ⟨gb, j, none⟩ = some (.int .u8 (v.toNat : Int)) := by rw [RBW.out j hjn, hv]
              have hco1 : (wr.drew.alloc (.cells #[.int .u8 (v.toNat : Int)] 5)).cell? ⟨go, j, none⟩ = some (.slice (some ⟨p j, 0, none⟩) (KK j) (c j)) := (hbW.cell (p := ⟨go, j, none⟩) (World.block_lt_of_cell? wr _ hco)).trans hco
              have hco2 : (wr.alloc (.cells #[.int .u8 (v.toNat : Int)] 5)).cell? ⟨go, j, none⟩ = some (.slice (some ⟨p j, 0, none⟩) (KK j) (c j)) := hco1
              clear hv hKj
              go_wp2_with fail
              refine wp_region_held (S := fun W => W.cell? ⟨gb, j, none⟩ = some (.int .u8 (v.toNat : Int))) HMX.out ?_
              change wpAnyH _ _ _ _ _ _ _ _ wr.drew
              refine held_quiet 0 (v := ?v0) rfl (by kernel_rfl) (fun _ _ _ h => h) (by assumption) rfl ?hy0 ?rest0
              case hy0 => (intro wS hSw; (try dsimp only at hSw); go_simp; try with_reducible rfl)
              try simp only [Act.put, List.setIfInBounds_toArray, List.set_cons_zero, List.set_cons_succ]
              refine held_quiet 1 (v := ?v1) rfl (by kernel_rfl) (fun _ _ _ h => h) (by assumption) rfl ?hy1 ?rest1
              case hy1 => (intro wS hSw; (try dsimp only at hSw); go_simp; try with_reducible rfl)
              try simp only [Act.put, List.setIfInBounds_toArray, List.set_cons_zero, List.set_cons_succ]
              refine held_quiet 2 (v := ?v2) rfl (by kernel_rfl) (fun _ _ _ h => h) (by assumption) rfl ?hy2 ?rest2
              case hy2 => (intro wS hSw; (try dsimp only at hSw); go_simp; try with_reducible rfl)
              try simp only [Act.put, List.setIfInBounds_toArray, List.set_cons_zero, List.set_cons_succ]
              refine held_quiet 3 (v := ?v3) rfl (by kernel_rfl) (fun _ _ _ h => h) (by assumption) rfl ?hy3 ?rest3
              case hy3 => (intro wS hSw; (try dsimp only at hSw); go_simp; try with_reducible rfl)
              try simp only [Act.put, List.setIfInBounds_toArray, List.set_cons_zero, List.set_cons_succ]
              refine held_quiet 4 (v := ?v4) rfl (by kernel_rfl) (fun _ _ _ h => h) (by assumption) rfl ?hy4 ?rest4
              case hy4 => (intro wS hSw; (try dsimp only at hSw); go_simp; try with_reducible rfl)
              try simp only [Act.put, List.setIfInBounds_toArray, List.set_cons_zero, List.set_cons_succ]
              refine held_quiet 6 (v := ?v6) rfl (by kernel_rfl) (fun _ _ _ h => h) (by assumption) rfl ?hy6 ?rest6
              case hy6 => (intro wS hSw; (try dsimp only at hSw); go_simp; try with_reducible rfl)
              try simp only [Act.put, List.setIfInBounds_toArray, List.set_cons_zero, List.set_cons_succ]
              refine held_quiet 7 (v := ?v7) rfl (by kernel_rfl) (fun _ _ _ h => h) (by assumption) rfl ?hy7 ?rest7
              case hy7 => (intro wS hSw; (try dsimp only at hSw); go_simp; try with_reducible rfl)
              try simp only [Act.put, List.setIfInBounds_toArray, List.set_cons_zero, List.set_cons_succ]
              refine held_quiet 8 (v := ?v8) rfl (by kernel_rfl) (fun _ _ _ h => h) (by assumption) rfl ?hy8 ?rest8
              case hy8 => (intro wS hSw; (try dsimp only at hSw); go_simp; try with_reducible rfl)
              try simp only [Act.put, List.setIfInBounds_toArray, List.set_cons_zero, List.set_cons_succ]
              refine held_quiet 9 (v := ?v9) rfl (by kernel_rfl) (fun _ _ _ h => h) (by assumption) rfl ?hy9 ?rest9
              case hy9 => (intro wS hSw; (try dsimp only at hSw); go_simp; try with_reducible rfl)
              try simp only [Act.put, List.setIfInBounds_toArray, List.set_cons_zero, List.set_cons_succ]
              refine held_two 5 10 rfl rfl (by kernel_rfl) ?_ ?_
              · go_wp2
                try refine ⟨hS0, ?_⟩
                refine held_one 10 rfl (by kernel_rfl) ?_
                go_wp2
                try refine ⟨hS1, ?_⟩
                refine held_one 11 rfl (by kernel_rfl) ?_
                refine wpList_append_lies _ rfl _ _ 36 rfl w1.heap.size 5 i0 (.int .u8 0) 1 1 Try.underlying36 hi hz0 hz1 hz2 rfl (by decide) (.slice (some ⟨p j, 0, none⟩) (KK j) (c j)) (KK j) (byteVals (bl (KK j) fun t => R t j)) rfl (OUTj.out.alloc _) ⟨wr.heap.size, 0, none⟩ 1 1 [.int .u8 (v.toNat : Int)] rfl rfl (cell_one_new _ _ _) (by simp [Value.oneCell']) (by decide) (by unfold maxLen; omega) (by omega) (by simp; omega) _ rfl ?_
                intro g3 c3 w3 own3 grow3 lies3 _
                have lies3 : g3 = p j ∨ g3 = (wr.drew.alloc (.cells #[.int .u8 (v.toNat : Int)] 5)).heap.size := lies3.imp (fun h => by simpa [Value.ownBlock] using h.symm) id
                have PUT := Outs.put OUT.out hjn hbW v HVJ.out own3 grow3 lies3
                have ho3 : w3.ownsRow w1.heap.size 36 1 (.slice (some ⟨go, 0, none⟩) n co) n (headVals n p c KK) :=
                  (ownsRow_below OUT.out.out hbW).kept grow3 (.inr (by simp [Value.ownBlock]; exact Ne.symm (OUT.out.ne hjn)))
                have hc3 : w3.cell? ⟨go, j, none⟩ = some (.slice (some ⟨p j, 0, none⟩) (KK j) (c j)) := by rw [ho3.cellAt j (by omega)]; exact headVals_at _ _ _ hjn
                have hf3 : w3.frozen? ⟨go, j, none⟩ = false := ho3.frozenAt j
                have hb3 : RowB w3 gb n V := fun t ht => (grow3.cell_far ⟨gb, t, none⟩ (Nat.lt_of_lt_of_le (World.block_lt_of_cell? wr _ (RB.out t ht)) hbW.size) (by have h := NEB.out j hjn; simp [Value.ownBlock]; exact Ne.symm h)).trans (RBW.out t ht)
                have hs3 : w3.cell? ⟨gb, j, none⟩ = some (.int .u8 (v.toNat : Int)) := by rw [hb3 j hjn, HVV.out]
                have hne3 : ∀ t, t < n → Gfm.upd p j g3 t ≠ gb := fun t ht => by
                  by_cases e : t = j
                  · subst e; rw [Gfm.upd_same]
                    rcases lies3 with h | h
                    · rw [h]; exact NEB.out t ht
                    · have h0 : gb < wr.heap.size := World.block_lt_of_cell? wr _ (RB.out 0 (by omega))
                      have := hbW.size; omega
                  · rw [Gfm.upd_other _ _ e]; exact NEB.out t ht
                have hB3 : Below w1.heap.size w1 w3 := (HB.out.trans (hbW.mono hsz)).grown grow3 (by have := hbW.size; omega) (fun t ht => by have := (OUT.out.block hjn).1; have h : p j = t := (by simpa [Value.ownBlock] using ht); omega)
                try refine ⟨hs3, ?_⟩
                refine held_one 12 rfl (by kernel_rfl) ?_
                go_wp2
                try refine ⟨hs3, ?_⟩
                refine held_one 13 rfl (by kernel_rfl) ?_
                have hs4 : (w3.setCell ⟨go, j, none⟩ (.slice (some ⟨g3, 0, none⟩) (KK j + 1) c3)).cell? ⟨gb, j, none⟩ = some (.int .u8 (v.toNat : Int)) := by
                  rw [World.cell?_setCell_other _ _ _ _ (fun e => NEO.out (by injection e))]; exact hs3
                have PUT2 : Hid (Outs (w3.setCell ⟨go, j, none⟩ (.slice (some ⟨g3, 0, none⟩) (KK j + 1) c3)) w1.heap.size n go co (Gfm.upd p j g3) (Gfm.upd c j c3) (fun i => if i < j + 1 then k + 1 else k) R) := PUT.turn fun t ht => by
                  by_cases e : t = j
                  · subst e; rw [Gfm.upd_same, HKJ.out, if_pos (by omega)]
                  · rw [Gfm.upd_other _ _ e, HKK.out t]
                    by_cases h : t < j
                    · rw [if_pos h, if_pos (by omega)]
                    · rw [if_neg h, if_neg (by omega)]
                have RB4 : Hid (RowB (w3.setCell ⟨go, j, none⟩ (.slice (some ⟨g3, 0, none⟩) (KK j + 1) c3)) gb n V) := fun t ht => by
                  rw [World.cell?_setCell_other _ _ _ _ (fun e => NEO.out (by injection e))]; exact hb3 t ht
                have NE4 : Hid (∀ t, t < n → Gfm.upd p j g3 t ≠ gb) := hne3
                have HB4 : Hid (Below w1.heap.size w1 (w3.setCell ⟨go, j, none⟩ (.slice (some ⟨g3, 0, none⟩) (KK j + 1) c3))) := hB3.setCell (p := ⟨go, j, none⟩) OUT.out.outBlock.1 _
                clear PUT ho3 hb3 hne3 hB3 own3 grow3 lies3
                go_wp2
                try refine ⟨hs4, ?_⟩
                refine held_done (by kernel_rfl) ?_
                go_wp2
                go_roundg (n - (j + 1))
                case measure => omega
                case rel => exact ⟨j + 1, _, _, by omega, rfl, by go_num, PUT2.out, RB4.out, NE4.out, HB4.out⟩
              · go_wp2
                try refine ⟨hS1, ?_⟩
                refine held_one 5 rfl (by kernel_rfl) ?_
                go_wp2
                try refine ⟨hS1, ?_⟩
                refine held_one 11 rfl (by kernel_rfl) ?_
                refine wpList_append_lies _ rfl _ _ 36 rfl w1.heap.size 5 i0 (.int .u8 0) 1 1 Try.underlying36 hi hz0 hz1 hz2 rfl (by decide) (.slice (some ⟨p j, 0, none⟩) (KK j) (c j)) (KK j) (byteVals (bl (KK j) fun t => R t j)) rfl (OUTj.out.alloc _) ⟨wr.heap.size, 0, none⟩ 1 1 [.int .u8 (v.toNat : Int)] rfl rfl (cell_one_new _ _ _) (by simp [Value.oneCell']) (by decide) (by unfold maxLen; omega) (by omega) (by simp; omega) _ rfl ?_
                intro g3 c3 w3 own3 grow3 lies3 _
                have lies3 : g3 = p j ∨ g3 = (wr.drew.alloc (.cells #[.int .u8 (v.toNat : Int)] 5)).heap.size := lies3.imp (fun h => by simpa [Value.ownBlock] using h.symm) id
                have PUT := Outs.put OUT.out hjn hbW v HVJ.out own3 grow3 lies3
                have ho3 : w3.ownsRow w1.heap.size 36 1 (.slice (some ⟨go, 0, none⟩) n co) n (headVals n p c KK) :=
                  (ownsRow_below OUT.out.out hbW).kept grow3 (.inr (by simp [Value.ownBlock]; exact Ne.symm (OUT.out.ne hjn)))
                have hc3 : w3.cell? ⟨go, j, none⟩ = some (.slice (some ⟨p j, 0, none⟩) (KK j) (c j)) := by rw [ho3.cellAt j (by omega)]; exact headVals_at _ _ _ hjn
                have hf3 : w3.frozen? ⟨go, j, none⟩ = false := ho3.frozenAt j
                have hb3 : RowB w3 gb n V := fun t ht => (grow3.cell_far ⟨gb, t, none⟩ (Nat.lt_of_lt_of_le (World.block_lt_of_cell? wr _ (RB.out t ht)) hbW.size) (by have h := NEB.out j hjn; simp [Value.ownBlock]; exact Ne.symm h)).trans (RBW.out t ht)
                have hs3 : w3.cell? ⟨gb, j, none⟩ = some (.int .u8 (v.toNat : Int)) := by rw [hb3 j hjn, HVV.out]
                have hne3 : ∀ t, t < n → Gfm.upd p j g3 t ≠ gb := fun t ht => by
                  by_cases e : t = j
                  · subst e; rw [Gfm.upd_same]
                    rcases lies3 with h | h
                    · rw [h]; exact NEB.out t ht
                    · have h0 : gb < wr.heap.size := World.block_lt_of_cell? wr _ (RB.out 0 (by omega))
                      have := hbW.size; omega
                  · rw [Gfm.upd_other _ _ e]; exact NEB.out t ht
                have hB3 : Below w1.heap.size w1 w3 := (HB.out.trans (hbW.mono hsz)).grown grow3 (by have := hbW.size; omega) (fun t ht => by have := (OUT.out.block hjn).1; have h : p j = t := (by simpa [Value.ownBlock] using ht); omega)
                try refine ⟨hs3, ?_⟩
                refine held_one 12 rfl (by kernel_rfl) ?_
                go_wp2
                try refine ⟨hs3, ?_⟩
                refine held_one 13 rfl (by kernel_rfl) ?_
                have hs4 : (w3.setCell ⟨go, j, none⟩ (.slice (some ⟨g3, 0, none⟩) (KK j + 1) c3)).cell? ⟨gb, j, none⟩ = some (.int .u8 (v.toNat : Int)) := by
                  rw [World.cell?_setCell_other _ _ _ _ (fun e => NEO.out (by injection e))]; exact hs3
                have PUT2 : Hid (Outs (w3.setCell ⟨go, j, none⟩ (.slice (some ⟨g3, 0, none⟩) (KK j + 1) c3)) w1.heap.size n go co (Gfm.upd p j g3) (Gfm.upd c j c3) (fun i => if i < j + 1 then k + 1 else k) R) := PUT.turn fun t ht => by
                  by_cases e : t = j
                  · subst e; rw [Gfm.upd_same, HKJ.out, if_pos (by omega)]
                  · rw [Gfm.upd_other _ _ e, HKK.out t]
                    by_cases h : t < j
                    · rw [if_pos h, if_pos (by omega)]
                    · rw [if_neg h, if_neg (by omega)]
                have RB4 : Hid (RowB (w3.setCell ⟨go, j, none⟩ (.slice (some ⟨g3, 0, none⟩) (KK j + 1) c3)) gb n V) := fun t ht => by
                  rw [World.cell?_setCell_other _ _ _ _ (fun e => NEO.out (by injection e))]; exact hb3 t ht
                have NE4 : Hid (∀ t, t < n → Gfm.upd p j g3 t ≠ gb) := hne3
                have HB4 : Hid (Below w1.heap.size w1 (w3.setCell ⟨go, j, none⟩ (.slice (some ⟨g3, 0, none⟩) (KK j + 1) c3))) := hB3.setCell (p := ⟨go, j, none⟩) OUT.out.outBlock.1 _
                clear PUT ho3 hb3 hne3 hB3 own3 grow3 lies3
                go_wp2
                try refine ⟨hs4, ?_⟩
                refine held_done (by kernel_rfl) ?_
                go_wp2
                go_roundg (n - (j + 1))
                case measure => omega
                case rel => exact ⟨j + 1, _, _, by omega, rfl, by go_num, PUT2.out, RB4.out, NE4.out, HB4.out⟩
            · have hjj : j = n := by omega
              subst hjj
              have OUT2 : Hid (Outs wr w1.heap.size j go co p c (fun _ => k + 1) R) := OUT.out.turn fun i hi => by rw [HKK.out]; exact if_pos hi
              go_wp2
              go_roundg (s - (k + 1))
              case measure => omega
              case rel => exact ⟨k + 1, p, c, by omega, rfl, by go_num, OUT2.out, HB.out⟩
        · have hkk : k = s := by omega
          subst hkk
          obtain ⟨wE, hE⟩ : ∃ wE, wE = wr := ⟨_, rfl⟩
          subst hE
          obtain ⟨F, hF⟩ : ∃ F, Rf.fillF j f ln L = F := ⟨_, rfl⟩
          have HFE : Hid (∀ i, F i = ⟨(bl k fun t => R t i).toArray⟩) := fun i => by rw [← hF]; exact HFF.out i
          have HFN : Hid (Rf.fillF j f ln L = F) := hF
          have LOWE : Hid (w.heap.size ≤ wE.heap.size) := LOW.out.size
          clear hF
          go_wp2
          go_loopg [12, 13] j (fun gg u x wr => ∃ (i gl cl : Nat), i ≤ j ∧ gg = j - i ∧ u = .slice (some ⟨gl, 0, none⟩) i cl ∧ x = .int .i64 i ∧ wr.ownsRow wE.heap.size 9 1 (.slice (some ⟨gl, 0, none⟩) i cl) i (textVals i F) ∧ Below wE.heap.size wE wr)
          case atStart => exact ⟨0, wE.heap.size, 0, Nat.zero_le _, rfl, rfl, rfl, World.ownsRow_made wE #[] 0 (Nat.le_refl _) (by decide) rfl, (Below.refl _ _).alloc (Nat.le_refl _) _⟩
          case round =>
            obtain ⟨i, gl, cl, hil, rfl, rfl, rfl, ol, hb⟩ := hrel
            have OL : Hid (wr.ownsRow wE.heap.size 9 1 (.slice (some ⟨gl, 0, none⟩) i cl) i (textVals i F)) := ol
            have HBE : Hid (Below wE.heap.size wE wr) := hb
            have OUTr := OUT.out.below hb
            have hszE := hb.size
            clear ol hb
            by_cases hij : i < j
            · have hci := OUTr.cell hij
              have hcv := ownsBytes_back (P := Try.prog) (OUTr.rows i hij) 36 9 5 Try.underlying36 Try.underlying5 Try.underlying9
              rw [← HFE.out i] at hcv
              obtain ⟨y, hy⟩ : ∃ y, F i = y := ⟨_, rfl⟩
              have HFy : Hid (F i = y) := hy
              rw [hy] at hcv
              have ONE3 : Hid (RowS (wr.alloc (.cells #[.string y] 9)) (some ⟨wr.heap.size, 0, none⟩) 1 (fun _ => y)) := RowS.one _ _ rfl _ _
              have t1 : True := trivial
              clear OUTr hy
              go_wp2_with (at_builtin; have _t := t1; refine wpList_append_texts _ rfl _ _ rfl wE.heap.size gl i cl F rfl (OL.out.alloc _) (some ⟨wr.heap.size, 0, none⟩) 1 1 (fun _ => y) rfl ONE3.out (by omega) (by simp; omega) ?_; intro g3 c3 w4 own4 grow4 lies4; rw [textVals_joinOne i F y HFy.out] at own4; (have OWN4 : Hid (w4.ownsRow wE.heap.size 9 1 (.slice (some ⟨g3, 0, none⟩) (i + 1) c3) (i + 1) (textVals (i + 1) F)) := own4); (have B4 : Hid (Below wE.heap.size wE w4) := below_joined (HBE.out.alloc hszE _) (by simp; omega) (OL.out.alloc _) grow4); clear own4 grow4 lies4 t1)
              go_roundg (j - (i + 1))
              case measure => omega
              case rel => exact ⟨i + 1, g3, c3, by omega, rfl, rfl, by go_num, OWN4.out, B4.out⟩
            · have hii : i = j := by omega
              subst hii
              obtain ⟨ar, cr, er, rr, hcr, hbr⟩ := RowS.of_owns OL.out
              cases er
              have RR : Hid (RowS wr (some ⟨gl, 0, none⟩) i F) := rr
              have CR : Hid (i ≤ cl) := hcr
              have GL : Hid (wE.heap.size ≤ gl) := owns_low OL.out
              have HBF : Hid (Below w.heap.size w wr) := LOW.out.trans (HBE.out.mono LOWE.out)
              clear rr hcr hbr OUTr
              go_wp2
              go_ret2
              exact ⟨⟨_, _, rfl, by rw [HFN.out]; exact RR.out, CR.out, fun x hx => by cases hx; have := LOWE.out; have := GL.out; show w.heap.size ≤ gl; omega⟩, HBF.out⟩

set_option maxRecDepth 100000 in
set_option maxHeartbeats 1000000 in
theorem refFill_no (n : Nat) (f : Nat → ByteArray) (hn : n ≤ 1000000) (hf : Fits 1048576 n f) (a : Option Addr) (cap : Nat) (ln : Nat) (L : Nat → Int) (hln : ln ≤ 1000000) (b : Option Addr) (capb : Nat) (hcapb : ln ≤ capb) (w : World) (hr : RowS w a n f) (hl : RowI .i64 w b ln L) (hmay : Rf.mayF n f ln L ≠ 0) :
    Calls Try.prog 12 #[.slice a n cap, .slice b ln capb] w fun e w' => e = .returned (.tuple #[.slice none 0 0, .int .i64 (Rf.mayF n f ln L)]) ∧ Below w.heap.size w w' := by
  have hMAY := May_any n f hn hf a cap ln L hln b capb hcapb w hr hl
  obtain ⟨x, hx⟩ : ∃ x, Rf.mayF n f ln L = x := ⟨_, rfl⟩
  rw [hx] at hMAY hmay
  rw [hx]
  have h0 : (x != 0) = true := by rw [bne_iff_ne]; exact hmay
  clear hx hmay
  go_enter Try.func12, Try.ntmps12
  go_wp2_with fail
  refine hMAY.mono ?_
  rintro e w1 ⟨rfl, b1⟩
  go_wp2
  go_ret2
  exact ⟨rfl, b1⟩
/-- both at once -/
theorem refFill_says (n : Nat) (f : Nat → ByteArray) (hn : n ≤ 1000000) (hf : Fits 1048576 n f) (a : Option Addr) (cap : Nat) (ln : Nat) (L : Nat → Int) (hln : ln ≤ 1000000) (b : Option Addr) (capb : Nat) (hcapb : ln ≤ capb) (w : World) (hr : RowS w a n f) (hl : RowI .i64 w b ln L) :
    Calls Try.prog 12 #[.slice a n cap, .slice b ln capb] w fun e w' => FillSays n f ln L e w' ∧ Below w.heap.size w w' := by
  unfold FillSays
  by_cases h : Rf.mayF n f ln L = 0
  · refine (refFill_ok n f hf a cap ln L b capb hcapb w hr hl h).mono ?_
    rintro e w' ⟨⟨g, c, rfl, hr', hc, _⟩, hb⟩
    rw [h, Rf.kF_ok]
    exact ⟨⟨g, c, rfl, hr', hc⟩, hb⟩
  · refine (refFill_no n f hn hf a cap ln L hln b capb hcapb w hr hl h).mono ?_
    rintro e w' ⟨rfl, hb⟩
    rw [Rf.kF_no h]
    exact ⟨⟨none, 0, rfl, RowS.nil _ _ _, Nat.le_refl _⟩, hb⟩
theorem refMake_says (n : Nat) (f : Nat → ByteArray) (hn : n ≤ 1000) (hf : Fits 1048576 n f) (a : Option Addr) (cap : Nat) (w : World) (hr : RowS w a n f) :
    Calls Try.prog 14 #[.slice a n cap] w fun e w' => MakeSays n f e w' ∧ Below w.heap.size w w' := by
  unfold MakeSays
  refine (refMake_any n f hn hf a cap w hr).mono ?_
  rintro e w' ⟨⟨h, rfl⟩ | ⟨h, g, c, rfl, hr', hc, _⟩, hb⟩
  · rw [Rf.kF_no h]
    exact ⟨⟨none, 0, rfl, RowS.nil _ _ _, Nat.le_refl _⟩, hb⟩
  · rw [h, Rf.kF_ok]
    exact ⟨⟨g, c, rfl, hr', hc⟩, hb⟩
end Go.Proofs.Ytjephdeolifbpaa
