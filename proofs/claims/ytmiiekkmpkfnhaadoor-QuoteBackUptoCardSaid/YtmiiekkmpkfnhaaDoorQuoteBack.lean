/- Walk of the law QuoteBack. -/
import Derived.Test.YtmiiekkmpkfnhaaDoorQuoV
import Derived.Test.YtmiiekkmpkfnhaaDoorQuoS
namespace Go.Proofs.YtmiiekkmpkfnhaaDoor
open Go.RowKit UM QM

theorem lo_app {a b : List Nat} (ha : ∀ x ∈ a, x < 256) (hb : LM.Lo 256 b) : LM.Lo 256 (a ++ b) := fun x hx => by
  rcases List.mem_append.1 hx with h | h
  · exact ha x h
  · exact hb x h
set_option maxRecDepth 100000 in
set_option maxHeartbeats 4000000 in
theorem back_walk {s other : ByteArray} {am : Option Addr} {lm cm : Nat} {more : List Nat} (w : World) (ht : Sh w) (hs : s.data.toList.length ≤ 1048576) (ho : other.data.toList.length ≤ 1048576) (hlm : lm = more.length) (hm : more.length ≤ 1048576) (hlo : LM.Lo 256 more) (hr : Rd w .u8 am more) (hnil : am = none → lm = 0 ∧ cm = 0) : Calls Tryd.prog 4 #[.string s, .slice am lm cm, .string other] w fun r w' => r = .returned (.bool true) ∧ Below w.heap.size w w' := by
  rw [Array.length_toList] at hs ho
  have hz : s.size ≤ 1048576 := hs
  have hoz : other.size ≤ 1048576 := ho
  have hxl : (xp (bl s)).length ≤ s.size := by rw [← bl_len s]; exact xp_le _
  have hpts := xp_pts (bl s)
  have hC := fun W h => Clean_any s W (by omega) h
  have hQ := fun W h => Quote_any s W (by omega) h
  have hA := fun W h => Ascii_any s W (by omega) h
  unfold ResT at hC hQ hA
  generalize xp (bl s) = ps at *
  have hpl : ps.length ≤ 10000000 := by omega
  have HC := Lib.hid hC; have HQ := Lib.hid hQ; have HA := Lib.hid hA; have HT := Lib.hid ht; have HP := Lib.hid hpts; have HPL := Lib.hid hpl; have HM := Lib.hid hr; have HNIL := Lib.hid hnil; have HLO := Lib.hid hlo
  subst hlm
  clear hC hQ hA ht hs ho hpts hr hlo hnil
  go_enter Tryd.func4, Tryd.ntmps4
  go_wp2_with fail
  refine (shown_any _ HT.out).mono ?_
  rintro r w1 ⟨rfl, hb⟩
  have G1 : Hid (Goes w w1) := Lib.hid ⟨hb, HT.out.below hb⟩
  clear hb
  go_wp2_with fail
  refine (HC.out _ G1.out.2).mono ?_
  rintro r w2 ⟨rfl, hb⟩
  have G2 := Lib.hid (G1.out.next hb)
  clear hb
  go_wp2_with fail
  refine (HQ.out _ G2.out.2).mono ?_
  rintro r w3 ⟨rfl, hb⟩
  have G3 := Lib.hid (G2.out.next hb)
  clear hb
  go_wp2_with fail
  refine (HA.out _ G3.out.2).mono ?_
  rintro r w4 ⟨rfl, hb⟩
  have G4 := Lib.hid (G3.out.next hb)
  clear hb
  have hcvQ := fun W => conv_bw W (wrt false ps)
  have hcvA := fun W => conv_bw W (wrt true ps)
  have G4M : Hid (Rd w4 .u8 am more) := Lib.hid (HM.out.below G4.out.1)
  have L5 : Hid ((wrt false ps).length ≤ 1000000000) := Lib.hid (by have := wrt_len false ps; omega)
  have M5 : Hid (Rd (Lib.bytesWorld w4 5 (tx (wrt false ps))) .u8 am more) := Lib.hid ((G4M.out).below (bw_below w4 5 (tx (wrt false ps))))
  go_wp2_with (refine wp_onto (Lib.bytesWorld w4 5 (tx (wrt false ps))) rfl _ _ 26 rfl w4.heap.size 5 Tryd.underlying26 infoU8 w4.heap.size _ _ (wrt false ps) rfl rfl (bw_rd w4 _ _ (wrt_lo false HP.out)) (bw_spare w4 _ _ (by have := L5.out; omega)) (bw_cap w4 _ _) (Nat.le_refl _) (by rw [Lib.bytesWorld_size]; omega) am _ cm more rfl rfl M5.out HNIL.out (by have := L5.out; omega) ?_; intro a5 cap5 v5 h1 h2 h3 h4; have A5 := Lib.hid h1; have C5 := Lib.hid h2; have I5 := Lib.hid h3; have N5 := Lib.hid h4; clear h1 h2 h3 h4)
  have V5 : Hid (Goes w v5) := Lib.hid (G4.out.next ((bw_below w4 _ _).trans N5.out))
  have hR5 := Read_of (read_back false HP.out more) (by rw [List.length_append]; have := L5.out; omega) (lo_app (wrt_lo false HP.out) HLO.out) A5.out V5.out.2 C5.out I5.out
  rw [List.length_append] at hR5
  have R5 := Lib.hid hR5
  clear hR5
  refine R5.out.mono ?_
  unfold ResRv
  rintro r w5 ⟨rfl, hb⟩
  have G5 := Lib.hid (V5.out.next hb)
  have G5M := Lib.hid ((G4M.out.below ((bw_below w4 5 (tx (wrt false ps))).trans N5.out)).below hb)
  clear hb
  have L6 : Hid ((wrt true ps).length ≤ 1000000000) := Lib.hid (by have := wrt_len true ps; omega)
  have M6 : Hid (Rd (Lib.bytesWorld w5 5 (tx (wrt true ps))) .u8 am more) := Lib.hid ((G5M.out).below (bw_below w5 5 (tx (wrt true ps))))
  go_wp2_with (refine wp_onto (Lib.bytesWorld w5 5 (tx (wrt true ps))) rfl _ _ 26 rfl w5.heap.size 5 Tryd.underlying26 infoU8 w5.heap.size _ _ (wrt true ps) rfl rfl (bw_rd w5 _ _ (wrt_lo true HP.out)) (bw_spare w5 _ _ (by have := L6.out; omega)) (bw_cap w5 _ _) (Nat.le_refl _) (by rw [Lib.bytesWorld_size]; omega) am _ cm more rfl rfl M6.out HNIL.out (by have := L6.out; omega) ?_; intro a6 cap6 v6 h1 h2 h3 h4; have A6 := Lib.hid h1; have C6 := Lib.hid h2; have I6 := Lib.hid h3; have N6 := Lib.hid h4; clear h1 h2 h3 h4)
  have V6 : Hid (Goes w v6) := Lib.hid (G5.out.next ((bw_below w5 _ _).trans N6.out))
  have hR6 := Read_of (read_back true HP.out more) (by rw [List.length_append]; have := L6.out; omega) (lo_app (wrt_lo true HP.out) HLO.out) A6.out V6.out.2 C6.out I6.out
  rw [List.length_append] at hR6
  have R6 := Lib.hid hR6
  clear hR6
  refine R6.out.mono ?_
  unfold ResRv
  rintro r w6 ⟨rfl, hb⟩
  have G6 := Lib.hid (V6.out.next hb)
  have G6M := Lib.hid ((G5M.out.below ((bw_below w5 5 (tx (wrt true ps))).trans N6.out)).below hb)
  clear hb
  have ht1 := tx_size (wrt false ps)
  have ht2 := tx_size (wrt true ps)
  have he : bl (tx (encL ps)) = encL ps := bl_tx (encL_lo HP.out)
  have hes : (tx (encL ps)).size ≤ 140737488351232 := by rw [tx_size]; have := encL_len ps; omega
  have hI1 := fun W (g : Goes w W) => IsB false HP.out HPL.out (tx (encL ps)) hes W g
  have hI2 := fun W (g : Goes w W) => IsB true HP.out HPL.out (tx (encL ps)) hes W g
  rw [decide_eq_true he] at hI1 hI2
  have hI3 := fun W (g : Goes w W) => IsB true HP.out HPL.out other (by omega) W g
  have hP1 := fun W (g : Goes w W) => PlainB false HP.out HPL.out W g
  rw [decide_eq_true rfl] at hP1
  have hP2 := fun W (g : Goes w W) => PlainB true HP.out HPL.out W g
  have hq1 : (other.toList == (tx (encL ps)).toList) = decide (bl other = encL ps) := by
    have := txt_eq (l := bl other) (t := tx (encL ps)) (bl_lo other)
    rw [tx_bl, he] at this
    exact this
  have hq2 : ((tx (wrt true ps)).toList == (tx (wrt false ps)).toList) = decide (wrt false ps = wrt true ps) := by
    have := txt_eq (l := wrt true ps) (t := tx (wrt false ps)) (wrt_lo true HP.out)
    rw [bl_tx (wrt_lo false HP.out)] at this
    rw [this]
    exact decide_eq_decide.2 eq_comm
  generalize decide (bl other = encL ps) = d1 at *
  generalize decide (wrt false ps = wrt true ps) = d2 at *
  have I1 := Lib.hid hI1; have I2 := Lib.hid hI2; have I3 := Lib.hid hI3; have P1 := Lib.hid hP1; have P2 := Lib.hid hP2
  clear hI1 hI2 hI3 hP1 hP2 he hes
  go_wp2_with fail
  refine (I1.out _ G6.out).mono ?_
  rintro r w7 ⟨rfl, hg⟩
  have G7 := Lib.hid hg
  clear hg
  go_wp2_with fail
  refine (I2.out _ G7.out).mono ?_
  rintro r w8 ⟨rfl, hg⟩
  have G8 := Lib.hid hg
  clear hg
  go_wp2_with fail
  refine (I3.out _ G8.out).mono ?_
  rintro r w9 ⟨rfl, hg⟩
  have G9 := Lib.hid hg
  clear hg
  go_wp2_with fail
  refine (P1.out _ G9.out).mono ?_
  rintro r w10 ⟨rfl, hg⟩
  have G10 := Lib.hid hg
  clear hg
  go_wp2_with fail
  refine (P2.out _ G10.out).mono ?_
  rintro r w11 ⟨rfl, hg⟩
  have G11 := Lib.hid hg
  clear hg
  go_wp2
  go_ret
  exact ⟨rfl, G11.out.1⟩
theorem back_row {s other : ByteArray} {am : Option Addr} {lm cm : Nat} (w : World) (ht : Sh w) (hs : s.data.toList.length ≤ 1048576) (hb : IsBytes w am lm cm) (hl : lm ≤ 1048576) (ho : other.data.toList.length ≤ 1048576) : Calls Tryd.prog 4 #[.string s, .slice am lm cm, .string other] w fun r w' => r = .returned (.bool true) ∧ Below w.heap.size w w' := by
  obtain ⟨more, h1, h2, h3, _, h5⟩ := hb
  exact back_walk w ht hs ho h1.symm (by omega) h3 h2 h5
end Go.Proofs.YtmiiekkmpkfnhaaDoor
