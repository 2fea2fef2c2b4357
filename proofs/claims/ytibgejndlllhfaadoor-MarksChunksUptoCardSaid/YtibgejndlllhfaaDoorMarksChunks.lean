/- The law MarksChunks walked. -/
import Derived.Test.YtibgejndlllhfaaDoorMarR
import Derived.Test.YtibgejndlllhfaaDoorMarJ
namespace Go.Proofs.YtibgejndlllhfaaDoor
open Go.RowKit BM

set_option maxRecDepth 100000 in
set_option maxHeartbeats 2000000 in
theorem MarksChunks_any (a : Option Addr) (cap : Nat) (ps : List (List Nat)) (w : World) (hT : Tb w) (hl : ps.length ≤ 1048576) (hj : ps.flatten.length ≤ 1048576) (hr : RdQ w a ps) :
    Calls Tryd.prog 4 #[.slice a ps.length cap] w fun e w' => e = .returned (.bool true) ∧ Below w.heap.size w w' := by
  have HT := Lib.hid hT
  have HR := Lib.hid hr
  clear hT hr
  go_enter Tryd.func4, Tryd.ntmps4
  go_wp2_with fail
  refine (shown_any _ HT.out).mono ?_
  rintro r w1 ⟨rfl, hb⟩
  have B1 := Lib.hid hb
  clear hb
  obtain ⟨l, hfl⟩ : ∃ l, ps.flatten = l := ⟨_, rfl⟩
  have HJ : Hid (∀ W, RdQ W a ps → Calls Tryd.prog 14 #[.slice a ps.length cap] W (fun e w' => ∃ a' c', e = .returned (.slice a' l.length c') ∧ l.length ≤ c' ∧ Rd w' .u8 a' l ∧ Below W.heap.size W w')) := Lib.hid (fun W h => by
    have := Join_any a cap ps W (by omega) (by omega) h
    rwa [hfl] at this)
  have HC : Hid (∀ W, RdQ W a ps → Calls Tryd.prog 15 #[.slice a ps.length cap] W (ResIx l W)) := Lib.hid (fun W h => by
    have := Chunks_any a cap ps W (by omega) (by omega) h.rdP
    rwa [hfl] at this)
  rw [hfl] at hj
  clear hfl
  go_wp2_with fail
  refine (HJ.out _ (HR.out.below B1.out)).mono ?_
  rintro r w2 ⟨aj, cj, rfl, hcj, hrj, hb⟩
  have B2 := Lib.hid (B1.out.trans (hb.mono B1.out.size))
  have RJ := Lib.hid hrj
  clear hrj hb
  go_wp2_with fail
  refine (HC.out _ (HR.out.below B2.out)).mono ?_
  rintro r w3 ⟨a3, c3, rfl, ho, hb⟩
  have B3 := Lib.hid (B2.out.trans (hb.mono B2.out.size))
  have R3 := Lib.hid ho.rdM
  have RJ3 := Lib.hid (RJ.out.below hb)
  clear ho hb RJ HJ HC HR
  have hnl : nw l.length ≤ 2600000000000 := by unfold nw; omega
  go_wp2_with fail
  have bz := (Below.refl w3.heap.size w3).alloc (Nat.le_refl _) (.cells #[.slice a3 (nw l.length) c3, .int .i64 l.length] 27)
  have IX := Ix.mk w3 a3 (nw l.length) c3 l.length 27 (0, 0)
  have R4 := Lib.hid (R3.out.below bz)
  have RJ4 := Lib.hid (RJ3.out.below bz)
  have B4 := Lib.hid (B3.out.trans (bz.mono B3.out.size))
  generalize hw4 : w3.alloc (.cells #[.slice a3 (nw l.length) c3, .int .i64 l.length] 27) = w4 at *
  generalize w3.heap.size = gx at *
  clear bz R3 B3 RJ3 hw4
  have HBd : Hid (∀ W, Below w4.heap.size w4 W → Calls Tryd.prog 12 #[.slice aj l.length cj] W (ResIx l W)) := Lib.hid (fun W h => Build_any aj cj l W (by omega) hcj (RJ4.out.below h))
  have HBr : Hid (∀ W, Below w4.heap.size w4 W → Calls Tryd.prog 13 #[.slice aj l.length cj] W (ResIx l W)) := Lib.hid (fun W h => BuildR_any aj cj l W (by omega) hcj (RJ4.out.below h))
  have HSm := Lib.hid (fun a' c' W (h : Below w4.heap.size w4 W) (h2 : RdM W a' (wds l (nw l.length))) => Same_any a3 a' (nw l.length) c3 c' (wds l (nw l.length)) l.length W (wds_length _ _) hnl (R4.out.below h) h2)
  obtain ⟨x0, x1⟩ := IX.out
  clear RJ4 R4 hcj hl hnl hj IX
  unfold ResIx at HBd HBr
  generalize nw l.length = n at *
  generalize wds l n = ws at *
  go_region_held3 (fun w' => w'.cell? ⟨gx, 0, none⟩ = some (.slice a3 n c3) ∧ w'.cell? ⟨gx, 1, none⟩ = some (.int .i64 l.length)) (first | go_keep | exact X8 | exact X7 | exact X6 | exact X5 | exact ⟨x0, x1⟩)
    (first
      | (go_at_call 12; refine (HBd.out _ (Below.refl w4.heap.size w4).drew).mono ?_; rintro e5 w5 ⟨a5, c5, rfl, ho5, hb5⟩; have h5 := (Below.refl w4.heap.size w4).drew.trans hb5; have X5 := And.intro (cellW h5 x0) (cellW h5 x1); have r5 := ho5.rdM)
      | (go_at_call 13; refine (HBr.out _ h6).mono ?_; rintro e7 w7 ⟨a7, c7, rfl, ho7, hb7⟩; have h7 := h6.trans (hb7.mono h6.size); have X7 := And.intro (cellW h7 x0) (cellW h7 x1); have r7 := ho7.rdM)
      | (go_at_call 11; refine (HSm.out a7 c7 _ h7 r7).mono ?_; rintro e8 w8 ⟨rfl, hb8⟩; have h8 := h7.trans (hb8.mono h7.size); have X8 := And.intro (cellW h8 x0) (cellW h8 x1))
      | (go_at_call 11; refine (HSm.out a5 c5 _ h5 r5).mono ?_; rintro e6 w6 ⟨rfl, hb6⟩; have h6 := h5.trans (hb6.mono h5.size); have X6 := And.intro (cellW h6 x0) (cellW h6 x1)))
  go_wp2
  go_ret
  exact ⟨by simp, B4.out.trans (h8.mono B4.out.size)⟩
end Go.Proofs.YtibgejndlllhfaaDoor
