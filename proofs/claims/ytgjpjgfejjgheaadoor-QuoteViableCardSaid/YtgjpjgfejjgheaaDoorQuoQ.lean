/- quote: Plain walked. -/
import Derived.Test.YtgjpjgfejjgheaaDoorQuoP
import Derived.Deep.RegionLaw
namespace Go.Proofs.YtgjpjgfejjgheaaDoor
open Go.RowKit UM QM

set_option maxRecDepth 100000 in
set_option maxHeartbeats 2000000 in
theorem Plain_of {a : Option Addr} {cap : Nat} {l : List Nat} {w : World} {qs : List Nat} {k : Nat} (h : RdR l (toI qs) k 0) (hq : ∀ p ∈ qs, Pt p) (he : (encL qs).length ≤ 1000000000000) (hl : l.length ≤ 1000000000000) (hlo : LM.Lo 256 l) (hrd : Rd w .u8 a l) (ht : Sh w) (hcp : l.length ≤ cap) :
    Calls Tryd.prog 14 #[.slice a l.length cap] w fun r w' => r = .returned (.bool (decide (wrt false qs = l))) ∧ Below w.heap.size w w' := by
  have hpos : 0 < l.length := by
    rcases h with ⟨_, _, _, e⟩ | ⟨e, _⟩
    · unfold faultF at e
      repeat' split at e
      all_goals cases e
    · exact pk_pos (by rw [e]; decide)
  obtain ⟨b0, off0, rfl, _⟩ := hrd 0 hpos
  have hcvF : ∀ W, Rd W .u8 (some ⟨b0, off0, none⟩) l → (convert 26 9 (.slice (some ⟨b0, off0, none⟩) l.length cap)).run Tryd.prog W = .ok (.string (tx l)) W := fun W hr =>
    conv_rd (P := Tryd.prog) W 26 9 5 b0 off0 cap l l.length Tryd.underlying26 Tryd.underlying5 Tryd.underlying9 (fun j hj => by
      obtain ⟨b', off', e, hc⟩ := hr j hj
      cases e
      exact hc) hlo rfl
  have HCV := Lib.hid hcvF
  have hwlo : ∀ x ∈ wrt false qs, x < 256 := L3 (done := qs) (todo := []) (by simp) rfl hq
  have hcmp : ((tx (wrt false qs)).toList == (tx l).toList) = decide (wrt false qs = l) := by
    have := txt_eq (l := wrt false qs) (t := tx l) hwlo
    rw [bl_tx hlo] at this
    exact this
  clear hcvF hpos
  have HR := Lib.hid (Read_of h (Nat.le_trans hl (by decide)) hlo hrd ht hcp)
  have hQ := fun W hs => Quote_any (tx (encL qs)) W (by rw [tx_size]; exact he) hs
  rw [bl_tx (encL_lo hq), xp_enc hq] at hQ
  unfold ResT at hQ
  have HQ := Lib.hid hQ; have HT := Lib.hid ht; have HD := Lib.hid hrd; have HLO := Lib.hid hlo
  clear hQ h ht hrd hlo
  go_enter Tryd.func14, Tryd.ntmps14
  go_wp2_with fail
  refine HR.out.mono ?_
  unfold ResRv
  rintro r w1 ⟨rfl, hb⟩
  have B1 := Lib.hid hb; have T1 := Lib.hid (HT.out.below hb); have D1 := Lib.hid (HD.out.below hb)
  clear hb
  go_wp2
  have hcvA := HCV.out w1.drew D1.out
  have T1d : Hid (Sh w1.drew) := Lib.hid (show Sh w1.drew from T1.out)
  have D1d : Hid (Rd w1.drew .u8 (some ⟨b0, off0, none⟩) l) := Lib.hid (show Rd w1.drew .u8 (some ⟨b0, off0, none⟩) l from D1.out)
  go_region_law (first | (go_simp; go_at_call 8; (with_reducible refine (HQ.out w1.drew T1d.out).mono ?_); rintro e w' ⟨rfl, hbb⟩; have hcvB := HCV.out w' (D1d.out.below hbb)))
  all_goals
    have HBB := Lib.hid (B1.out.drew.trans (hbb.mono B1.out.size))
    clear hbb
    go_simp
    go_wp2
    go_ret
    exact ⟨rfl, HBB.out⟩
end Go.Proofs.YtgjpjgfejjgheaaDoor
