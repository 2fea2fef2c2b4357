/- The law MarksOrder walked. -/
import Derived.Test.YtibgejndlllhfaaDoorMarL
import Derived.BigQuiet
import Derived.Test.YtibgejndlllhfaaDoorMarMathD
namespace Go.Proofs.YtibgejndlllhfaaDoor
open Go.RowKit BM

/-- what the law's loop keeps: no mark of another byte stands between at and the places behind -/
def Seen (l : List Nat) (L : List (Nat × Nat)) (A i : Nat) : Prop := A ≤ loP L i ∧ ∀ r, A ≤ r → r < loP L i → ¬ N48 l r
theorem seen_zero (l : List Nat) (L : List (Nat × Nat)) : Seen l L 0 0 := ⟨Nat.le_refl _, fun r h1 h2 => by simp [loP] at h2⟩
theorem seen_gap {l : List Nat} {A i : Nat} (h : Seen l (mkL l l.length) A i) (hi : i ≤ (mkL l l.length).length) :
    A ≤ hiP (mkL l l.length) l.length i ∧ ∀ r, A ≤ r → r < hiP (mkL l l.length) l.length i → ¬ N48 l r := by
  obtain ⟨h1, h2, h3, _⟩ := pick_lohi (mb l) (kd l) l.length i hi
  refine ⟨Nat.le_trans h.1 h1, fun r a b => ?_⟩
  by_cases c : r < loP (mkL l l.length) i
  · exact h.2 r a c
  · intro hn
    have := h3 r (by unfold mkL at c; omega) b
    rw [hn.1] at this
    cases this
/-- a mark of no string, no sign: gone by -/
theorem seen_skip {l : List Nat} {A i : Nat} {x : Nat × Nat} (h : Seen l (mkL l l.length) A i) (hx : (mkL l l.length)[i]? = some x) (h48 : x.2 = 48) : Seen l (mkL l l.length) A (i + 1) := by
  have hi : i ≤ (mkL l l.length).length := Nat.le_of_lt (List.getElem?_eq_some_iff.1 hx).1
  obtain ⟨g1, g2⟩ := seen_gap h hi
  have hk := ((pick_lohi (mb l) (kd l) l.length i hi).2.2.2 x hx).2.2
  have e1 : hiP (mkL l l.length) l.length i = x.1 := by unfold hiP; rw [hx]
  have e2 : loP (mkL l l.length) (i + 1) = x.1 + 1 := by show (match (mkL l l.length)[i]? with | some x => x.1 + 1 | none => 0) = _; rw [hx]
  rw [e1] at g1 g2
  rw [Seen, e2]
  refine ⟨by omega, fun r a b => ?_⟩
  by_cases c : r < x.1
  · exact g2 r a c
  · have : r = x.1 := by omega
    subst this
    exact fun hn => hn.2 (by rw [← hk]; exact h48)
theorem seen_next {l : List Nat} {L : List (Nat × Nat)} {i : Nat} {x : Nat × Nat} (hx : L[i]? = some x) : Seen l L (x.1 + 1) (i + 1) := by
  have e2 : loP L (i + 1) = x.1 + 1 := by show (match L[i]? with | some x => x.1 + 1 | none => 0) = _; rw [hx]
  rw [Seen, e2]
  exact ⟨Nat.le_refl _, fun r a b => by omega⟩
/-- the place of a mark -/
theorem mark_is {l : List Nat} {i : Nat} {x : Nat × Nat} (hx : (mkL l l.length)[i]? = some x) : x.1 < l.length ∧ x.2 = kd l x.1 ∧ (∀ y, i ≠ 0 → (mkL l l.length)[i - 1]? = some y → y.1 < x.1) ∧ (x.2 ≠ 48 → N48 l x.1) := by
  have hi : i ≤ (mkL l l.length).length := Nat.le_of_lt (List.getElem?_eq_some_iff.1 hx).1
  obtain ⟨h1, _, _, h4⟩ := pick_lohi (mb l) (kd l) l.length i hi
  obtain ⟨k1, k2, k3⟩ := h4 x hx
  refine ⟨k2, k3, fun y h0 hy => ?_, fun h => ⟨k1, by rw [← k3]; exact h⟩⟩
  obtain ⟨j, rfl⟩ : ∃ j, i = j + 1 := ⟨i - 1, by omega⟩
  simp only [Nat.add_sub_cancel] at hy
  have e1 : hiP (pick (mb l) (fun p => (p, kd l p)) l.length) l.length (j + 1) = x.1 := by unfold hiP; unfold mkL at hx; rw [hx]
  have e2 : loP (pick (mb l) (fun p => (p, kd l p)) l.length) (j + 1) = y.1 + 1 := by
    show (match (pick (mb l) (fun p => (p, kd l p)) l.length)[j]? with | some x => x.1 + 1 | none => 0) = _
    unfold mkL at hy; rw [hy]
  omega
/-- the two ways Next goes to a mark of another byte -/
theorem leads {l : List Nat} {A i : Nat} {x : Nat × Nat} (h : Seen l (mkL l l.length) A i) (hx : (mkL l l.length)[i]? = some x) (h48 : x.2 ≠ 48) :
    byte l x.1 = x.2 ∧ (nxV (wds l (nw l.length)) l.length A = x.1 ∨ ∃ n, n < x.1 ∧ nxV (wds l (nw l.length)) l.length A = n ∧ byte l n = 34 ∧ nxV (wds l (nw l.length)) l.length (n + 1 : Nat) = x.1) := by
  have hi : i ≤ (mkL l l.length).length := Nat.le_of_lt (List.getElem?_eq_some_iff.1 hx).1
  obtain ⟨g1, g2⟩ := seen_gap h hi
  obtain ⟨m1, m2, _, m4⟩ := mark_is hx
  have e1 : hiP (mkL l l.length) l.length i = x.1 := by unfold hiP; rw [hx]
  rw [e1] at g1 g2
  exact ⟨by rw [(n48_hit (m4 h48)).2, m2], nx_order g1 (m4 h48) m1 g2⟩
theorem leads_end {l : List Nat} {A i : Nat} (h : Seen l (mkL l l.length) A i) (hi : i = (mkL l l.length).length) :
    nxV (wds l (nw l.length)) l.length A = l.length ∨ ∃ n, n < l.length ∧ nxV (wds l (nw l.length)) l.length A = n ∧ byte l n = 34 ∧ nxV (wds l (nw l.length)) l.length (n + 1 : Nat) = l.length := by
  obtain ⟨g1, g2⟩ := seen_gap h (by omega)
  have e1 : hiP (mkL l l.length) l.length i = l.length := by unfold hiP; rw [List.getElem?_eq_none (by omega)]
  rw [e1] at g2
  exact nx_end g2
theorem seen_le {l : List Nat} {A i : Nat} (h : Seen l (mkL l l.length) A i) (hi : i ≤ (mkL l l.length).length) : A ≤ l.length :=
  Nat.le_trans (seen_gap h hi).1 (pick_lohi (mb l) (kd l) l.length i hi).2.1
set_option maxRecDepth 100000 in
set_option maxHeartbeats 2000000 in
theorem MarksOrder_any (a : Option Addr) (cap : Nat) (l : List Nat) (w : World) (hT : Tb w) (hl : l.length ≤ 1048576) (hcap : l.length ≤ cap) (hr : Rd w .u8 a l) :
    Calls Tryd.prog 9 #[.slice a l.length cap] w fun e w' => e = .returned (.bool true) ∧ Below w.heap.size w w' := by
  have HT := Lib.hid hT
  have HR := Lib.hid hr
  clear hT hr
  go_enter Tryd.func9, Tryd.ntmps9
  go_wp2_with fail
  refine (shown_any _ HT.out).mono ?_
  rintro r w1 ⟨rfl, hb⟩
  have B1 := Lib.hid hb
  clear hb
  go_wp2_with fail
  refine (Marks_any a cap l _ (HT.out.below B1.out) (by omega) hcap (HR.out.below B1.out)).mono ?_
  rintro r w2 ⟨a2, c2, rfl, ho, hb⟩
  have B2 := Lib.hid (B1.out.trans (hb.mono B1.out.size))
  have HO2 := Lib.hid ho
  clear ho hb
  go_wp2_with fail
  refine (Build_any a cap l _ (by omega) hcap (HR.out.below B2.out)).mono ?_
  rintro r w3 ⟨a3, c3, rfl, ho, hb⟩
  have B3 := Lib.hid (B2.out.trans (hb.mono B2.out.size))
  have R3 := Lib.hid ho.rdM
  have HO3 := Lib.hid (HO2.out.below hb)
  clear ho hb HO2
  have hml := mkL_le l l.length
  have hnl : nw l.length ≤ 2600000000000 := by unfold nw; omega
  go_wp2_with fail
  have bz := (Below.refl w3.heap.size w3).alloc (Nat.le_refl _) (.cells #[.slice a3 (nw l.length) c3, .int .i64 l.length] 27)
  have IX := Ix.mk w3 a3 (nw l.length) c3 l.length 27 (0, 0)
  have R4 := Lib.hid (R3.out.below bz)
  have HO4 := Lib.hid (HO3.out.below bz)
  have B4 := Lib.hid (B3.out.trans (bz.mono B3.out.size))
  generalize hw4 : w3.alloc (.cells #[.slice a3 (nw l.length) c3, .int .i64 l.length] 27) = w4 at *
  generalize w3.heap.size = gx at *
  clear bz R3 B3 HO3 hw4
  have HMI := Lib.hid (fun i x (hx : (mkL l l.length)[i]? = some x) => mark_is hx)
  have HSK := Lib.hid (fun A i x (h : Seen l (mkL l l.length) A i) (hx : (mkL l l.length)[i]? = some x) (h48 : x.2 = 48) => seen_skip h hx h48)
  have HLD := Lib.hid (fun A i x (h : Seen l (mkL l l.length) A i) (hx : (mkL l l.length)[i]? = some x) (h48 : x.2 ≠ 48) => leads h hx h48)
  have HLE := Lib.hid (fun A i (h : Seen l (mkL l l.length) A i) (hi : i = (mkL l l.length).length) => leads_end h hi)
  have HSL := Lib.hid (fun A i (h : Seen l (mkL l l.length) A i) (hi : i ≤ (mkL l l.length).length) => seen_le h hi)
  have HS0 := Lib.hid (seen_zero l (mkL l l.length))
  have HSN := Lib.hid (fun i x (hx : (mkL l l.length)[i]? = some x) => seen_next (l := l) hx)
  generalize mkL l l.length = L at *
  have HNX : Hid (∀ (W : World) (j : Int), Below w4.heap.size w4 W → (-9223372036854775808 ≤ j ∧ j ≤ 9223372036854775807) → Calls Tryd.prog 18 #[.agg #[.slice a3 (nw l.length) c3, .int .i64 l.length], .int .i64 j] W fun e w' => e = .returned (.int .i64 (nxV (wds l (nw l.length)) l.length j)) ∧ Below W.heap.size W w') := Lib.hid (by
    intro W j hb hj
    have := Next_any a3 c3 (wds l (nw l.length)) l.length j W (HT.out.below (B4.out.trans (hb.mono B4.out.size))) (R4.out.below hb) (by rw [wds_length]; exact hnl) (by omega) hj
    rwa [wds_length] at this)
  generalize nw l.length = n at *
  generalize wds l n = ws at *
  clear R4
  go_loopw [6, 7] (fun s6 s7 wr => ∃ A i : Nat, i ≤ L.length ∧ s6 = .int .i64 A ∧ s7 = .int .i64 i ∧ Hid (Seen l L A i) ∧ Hid (Below w4.heap.size w4 wr)) (fun s6 s7 _ => L.length - (intOf s7).toNat)
  case atStart => exact ⟨0, 0, by omega, rfl, rfl, HS0, Lib.hid (Below.refl _ _)⟩
  case round =>
    obtain ⟨A, i, hi, rfl, rfl, HS, BR⟩ := hrel
    by_cases hlt : i < L.length
    · obtain ⟨g2, rfl⟩ : ∃ g, a2 = some ⟨g, 0, none⟩ := by
        rcases HO4.out.shape with ⟨_, _, h, _⟩ | ⟨g, cur, h, _⟩
        · omega
        · exact ⟨g, h⟩
      obtain ⟨x, hx⟩ : ∃ x, L[i]? = some x := ⟨_, List.getElem?_eq_getElem hlt⟩
      have HX := Lib.hid hx
      clear hx
      obtain ⟨m1, m2, m3, m4⟩ := HMI.out i x HX.out
      clear m2 m4
      have M3 := Lib.hid m3
      clear m3
      have hlt2 : (i : Int) < L.length := by omega
      have hi0 : (0 : Int) ≤ i := by omega
      have hin : (i : Int) + 1 ≤ 9223372036854775807 := by omega
      go_upto_region 8 with (fail)
      go_cut [54] (fun s54 wx => s54 = .bool false ∧ Hid (Below w4.heap.size w4 wx))
      case first =>
        by_cases h0 : i = 0
        · obtain ⟨e1, e2⟩ := mkc_get HX.out
          have k2 := (HO4.out.below BR.out).cellAt e1
          clear e1 e2
          have d0 : decide (0 < i) = false := by simp; omega
          have d1 : decide (l.length ≤ x.1) = false := by simp; omega
          clear h0
          go_quiet (fail)
          have BR2 : Hid (Below w4.heap.size w4 (wr.drewN nq)) := Lib.hid (bdN BR.out nq)
          clear k2
          generalize wr.drewN nq = w5 at *
          go_wp2
          go_meet
          exact ⟨rfl, BR2⟩
        · obtain ⟨j, rfl⟩ : ∃ j, i = j + 1 := ⟨i - 1, by omega⟩
          clear h0
          obtain ⟨y, hy⟩ : ∃ y, L[j]? = some y := ⟨_, List.getElem?_eq_getElem (show j < L.length by omega)⟩
          have hyx := M3.out y (by omega) (by simpa using hy)
          obtain ⟨e1, e2⟩ := mkc_get HX.out
          have k2 := (HO4.out.below BR.out).cellAt e1
          clear e1 e2
          obtain ⟨e1, e2⟩ := mkc_get hy
          have k3 := (HO4.out.below BR.out).cellAt e1
          clear e1 e2 hy
          have hk1 : (((j + 1 : Nat) : Int) - 1) = j := by omega
          have hk0 : (0 : Int) < ((j + 1 : Nat) : Int) := by omega
          have e : ((j : Int) + 1 - 1) = j := by omega
          have e3 : IntKind.i64.wrap ((j : Int) + 1 - 1) = j := by rw [e]; exact IntWalk.i64_in _ (by omega)
          have d0 : decide (x.1 ≤ y.1) = false := by simp; omega
          have d1 : decide (l.length ≤ x.1) = false := by simp; omega
          have d2 : decide (0 < j + 1) = true := by simp
          have jlt : (j : Int) < L.length := by omega
          have j0 : (0 : Int) ≤ j := by omega
          go_quiet (fail)
          have BR2 : Hid (Below w4.heap.size w4 (wr.drewN nq)) := Lib.hid (bdN BR.out nq)
          clear k2 k3
          generalize wr.drewN nq = w5 at *
          go_wp2
          go_meet
          exact ⟨rfl, BR2⟩
      case rest =>
        obtain ⟨rfl, BC⟩ := hcut
        clear BR
        obtain ⟨e1, e2⟩ := mkc_get HX.out
        have k2 := (HO4.out.below BC.out).cellAt e1
        have k3 := (HO4.out.below BC.out).cellAt e2
        clear e1 e2
        by_cases h48 : x.2 = 48
        · have h48i : (x.2 : Int) = 48 := by omega
          have HS2 := Lib.hid (HSK.out A i x HS.out HX.out h48)
          clear h48
          go_wp2
          go_roundw
          case rel => exact ⟨A, i + 1, by omega, rfl, by go_num, HS2, BC⟩
          case measure => simp [intOf]; omega
        · have h48i : ¬ (x.2 : Int) = 48 := by omega
          have HD := Lib.hid (HLD.out A i x HS.out HX.out h48)
          have hA := HSL.out A i HS.out (by omega)
          clear h48
          obtain ⟨x0, x1⟩ := (Ix.below IX BC.out).out
          have d60 : ((x.2 : Int) == 48) = false := by rw [beq_eq_false_iff_ne]; omega
          clear h48i
          go_upto_if 60 with (fail)
          try rw [d60]
          clear d60
          go_wp2_with fail
          refine (HNX.out _ (A : Int) BC.out (by omega)).mono ?_
          rintro r w5 ⟨rfl, hb5⟩
          have B5 := Lib.hid (BC.out.trans (hb5.mono BC.out.size))
          clear hb5 k2 k3 x0 x1
          obtain ⟨e1, e2⟩ := mkc_get HX.out
          have k2 := (HO4.out.below B5.out).cellAt e1
          have k3 := (HO4.out.below B5.out).cellAt e2
          clear e1 e2
          obtain ⟨x0, x1⟩ := (Ix.below IX B5.out).out
          dsimp only
          rcases HD.out.2 with he | ⟨n2, hn2, he, hb2, he2⟩
          · rw [he]
            have d0 : decide (x.1 < x.1) = false := by simp
            go_wp2_with fail
            clear k2 k3
            obtain ⟨e1, e2⟩ := mkc_get HX.out
            have k2 := (HO4.out.below B5.out).cellAt e1
            have k3 := (HO4.out.below B5.out).cellAt e2
            clear e1 e2
            obtain ⟨b, off, v, rfl, hv, hc⟩ := (HR.out.below (B4.out.trans (B5.out.mono B4.out.size))).byte x.1 (by omega)
            have hv2 : v = x.2 := by rw [← hv.out]; exact HD.out.1
            subst hv2
            have q0 : (0 : Int) ≤ x.1 := by omega
            have q1 : (x.1 : Int) < l.length := by omega
            have q2 : IntKind.i64.wrap ((x.1 : Int) + 1) = ((x.1 + 1 : Nat) : Int) := by rw [IntWalk.i64_in _ (by omega)]; omega
            go_upto_region 14 with (fail)
            go_quiet (fail)
            have BF : Hid (Below w4.heap.size w4 (w5.drewN nq)) := Lib.hid (bdN B5.out nq)
            clear k2 k3 hc
            generalize w5.drewN nq = w7 at *
            go_wp2
            go_roundw
            case rel => exact ⟨x.1 + 1, i + 1, by omega, by go_num, by go_num, Lib.hid (HSN.out i x HX.out), BF⟩
            case measure => simp [intOf]; omega
          · rw [he]
            obtain ⟨b, off, v, rfl, hv, hc⟩ := (HR.out.below (B4.out.trans (B5.out.mono B4.out.size))).byte n2 (by omega)
            have hv2 : v = 34 := by rw [← hv.out]; exact hb2
            subst hv2
            have d0 : decide (n2 < x.1) = true := by simp; omega
            have q0 : (0 : Int) ≤ n2 := by omega
            have q1 : (n2 : Int) < l.length := by omega
            have q2 : IntKind.i64.wrap ((n2 : Int) + 1) = ((n2 + 1 : Nat) : Int) := by rw [IntWalk.i64_in _ (by omega)]; omega
            go_wp2_with fail
            refine (HNX.out _ ((n2 + 1 : Nat) : Int) B5.out (by omega)).mono ?_
            rintro r w6 ⟨rfl, hb6⟩
            rw [he2]
            have B6 := Lib.hid (B5.out.trans (hb6.mono B5.out.size))
            clear hb6 hc hv d0
            clear k2 k3
            obtain ⟨e1, e2⟩ := mkc_get HX.out
            have k2 := (HO4.out.below B6.out).cellAt e1
            have k3 := (HO4.out.below B6.out).cellAt e2
            clear e1 e2
            clear q0 q1 q2
            obtain ⟨b3, off3, v, hae, hv, hc⟩ := (HR.out.below (B4.out.trans (B6.out.mono B4.out.size))).byte x.1 (by omega)
            have hv2 : v = x.2 := by rw [← hv.out]; exact HD.out.1
            subst hv2
            obtain ⟨rfl, rfl⟩ : b = b3 ∧ off = off3 := by simpa using hae
            have q0 : (0 : Int) ≤ x.1 := by omega
            have q1 : (x.1 : Int) < l.length := by omega
            have q2 : IntKind.i64.wrap ((x.1 : Int) + 1) = ((x.1 + 1 : Nat) : Int) := by rw [IntWalk.i64_in _ (by omega)]; omega
            go_upto_region 14 with (fail)
            go_quiet (fail)
            have BF : Hid (Below w4.heap.size w4 (w6.drewN nq)) := Lib.hid (bdN B6.out nq)
            clear k2 k3 hc
            generalize w6.drewN nq = w7 at *
            go_wp2
            go_roundw
            case rel => exact ⟨x.1 + 1, i + 1, by omega, by go_num, by go_num, Lib.hid (HSN.out i x HX.out), BF⟩
            case measure => simp [intOf]; omega
    · have HE : Hid (i = L.length) := Lib.hid (by omega)
      have HD := Lib.hid (HLE.out A i HS.out HE.out)
      have hA := HSL.out A i HS.out (by omega)
      obtain ⟨x0, x1⟩ := (Ix.below IX BR.out).out
      go_wp2_with fail
      refine (HNX.out _ (A : Int) BR.out (by omega)).mono ?_
      rintro r w5 ⟨rfl, hb5⟩
      have B5 := Lib.hid (BR.out.trans (hb5.mono BR.out.size))
      clear hb5 x0 x1
      obtain ⟨x0, x1⟩ := (Ix.below IX B5.out).out
      dsimp only
      rcases HD.out with he | ⟨n2, hn2, he, hb2, he2⟩
      · rw [he]
        have d0 : decide (l.length < l.length) = false := by simp
        go_wp2
        go_ret
        exact ⟨rfl, B4.out.trans (B5.out.mono B4.out.size)⟩
      · rw [he]
        obtain ⟨b, off, v, rfl, hv, hc⟩ := (HR.out.below (B4.out.trans (B5.out.mono B4.out.size))).byte n2 (by omega)
        have hv2 : v = 34 := by rw [← hv.out]; exact hb2
        subst hv2
        have d0 : decide (n2 < l.length) = true := by simp; omega
        have q0 : (0 : Int) ≤ n2 := by omega
        have q1 : (n2 : Int) < l.length := by omega
        have q2 : IntKind.i64.wrap ((n2 : Int) + 1) = ((n2 + 1 : Nat) : Int) := by rw [IntWalk.i64_in _ (by omega)]; omega
        go_wp2_with fail
        refine (HNX.out _ ((n2 + 1 : Nat) : Int) B5.out (by omega)).mono ?_
        rintro r w6 ⟨rfl, hb6⟩
        rw [he2]
        have B6 := Lib.hid (B5.out.trans (hb6.mono B5.out.size))
        clear hb6
        go_wp2
        go_ret
        exact ⟨rfl, B4.out.trans (B6.out.mono B4.out.size)⟩
end Go.Proofs.YtibgejndlllhfaaDoor
