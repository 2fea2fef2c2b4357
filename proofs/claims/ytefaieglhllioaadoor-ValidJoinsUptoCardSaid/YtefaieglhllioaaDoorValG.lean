/- valid's reader: a number walked. (By wip/tools/genvalg.py.) -/
import Derived.Test.YtefaieglhllioaaDoorValAs
namespace Go.Proofs.YtefaieglhllioaaDoor
open Go.RowKit UM QM VM

theorem numA_0 {l : List Nat} {k : Nat} (h : pk l k = 48) : numA l k = numB l (k + 1) := by unfold numA; rw [if_pos h]
theorem numA_d {l : List Nat} {k : Nat} (h : pk l k ≠ 48) (h2 : k < dg l k) : numA l k = numB l (dg l k) := by unfold numA; rw [if_neg h, if_pos h2]
theorem numA_f {l : List Nat} {k : Nat} (h : pk l k ≠ 48) (h2 : ¬ k < dg l k) : numA l k = (false, dg l k) := by unfold numA; rw [if_neg h, if_neg h2]
theorem numB_n {l : List Nat} {k : Nat} (h : pk l k ≠ 46) : numB l k = numC l k := by unfold numB; rw [if_neg h]
theorem numB_d {l : List Nat} {k : Nat} (h : pk l k = 46) (h2 : k + 1 < dg l (k + 1)) : numB l k = numC l (dg l (k + 1)) := by unfold numB; rw [if_pos h, if_pos h2]
theorem numB_f {l : List Nat} {k : Nat} (h : pk l k = 46) (h2 : ¬ k + 1 < dg l (k + 1)) : numB l k = (false, dg l (k + 1)) := by unfold numB; rw [if_pos h, if_neg h2]
theorem numC_n {l : List Nat} {k : Nat} (h : pk l k ≠ 101) (h2 : pk l k ≠ 69) : numC l k = (true, k) := by unfold numC; rw [if_neg (by omega)]
theorem numC_p {l : List Nat} {k : Nat} (h : pk l k = 101 ∨ pk l k = 69) (h2 : pk l (k + 1) = 43) : numC l k = (decide (k + 1 + 1 < dg l (k + 1 + 1)), dg l (k + 1 + 1)) := by unfold numC; rw [if_pos h, if_pos (.inl h2)]
theorem numC_m {l : List Nat} {k : Nat} (h : pk l k = 101 ∨ pk l k = 69) (h2 : pk l (k + 1) ≠ 43) : numC l k = (decide ((if pk l (k + 1) = 45 then k + 1 + 1 else k + 1) < dg l (if pk l (k + 1) = 45 then k + 1 + 1 else k + 1)), dg l (if pk l (k + 1) = 45 then k + 1 + 1 else k + 1)) := by
  unfold numC
  rw [if_pos h]
  by_cases h3 : pk l (k + 1) = 45
  · rw [if_pos (.inr h3), if_pos h3]
  · rw [if_neg (by omega), if_neg h3]
set_option maxRecDepth 100000 in
set_option maxHeartbeats 8000000 in
theorem number_any (g : Nat) (a : Option Addr) (cap : Nat) (l : List Nat) (m k : Nat) (s : List Bool) (d : Bool) (w : World) (h : VB w g a cap l m k s d) :
    Calls Tryd.prog 30 #[.pointer (some ⟨g, 0, none⟩)] w (ResVB g a cap l m s d (numF l k) w) := by
  have HT := Lib.hid (vtake_any 45 (by decide) g a cap l m k s d w h)
  have HN : Hid (numF l k = numA l (if pk l k = 45 then k + 1 else k)) := Lib.hid rfl
  clear h
  generalize (if pk l k = 45 then k + 1 else k) = k1 at *
  generalize decide (pk l k = 45) = b0 at *
  go_enter Tryd.func30, Tryd.ntmps30
  go_wp2_with fail
  refine HT.out.mono ?_
  rintro e w1 ⟨rfl, hb, hg⟩
  have H1 := Lib.hid hb
  have G1 := Lib.hid hg
  clear hb hg HT
  by_cases h : pk l k1 = 48
  · have HT := Lib.hid (vtake_yes 48 g a cap l m k1 s d w1 H1.out h (by decide))
    have HN1 := Lib.hid (HN.out.trans (numA_0 h))
    clear h
    go_wp2_with fail
    refine HT.out.mono ?_
    rintro e w2 ⟨rfl, hb, hg⟩
    have H2 := Lib.hid hb
    have G2 := Lib.hid (gb_trans G1.out hg)
    clear hb hg HT
    by_cases h : pk l (k1 + 1) = 46
    · have HT := Lib.hid (vtake_yes 46 g a cap l m (k1 + 1) s d w2 H2.out h (by decide))
      have h8 := Lib.hid h
      clear h
      go_wp2_with fail
      refine HT.out.mono ?_
      rintro e w3 ⟨rfl, hb, hg⟩
      have H3 := Lib.hid hb
      have G3 := Lib.hid (gb_trans G2.out hg)
      clear hb hg HT
      have HT0 := Lib.hid (vdigits_any g a cap l m ((k1 + 1) + 1) s d w3 H3.out)
      by_cases hd : ((k1 + 1) + 1) < dg l ((k1 + 1) + 1)
      · have HT := Lib.hid HT0.out
        unfold ResVB at HT
        rw [decide_eq_true hd] at HT
        have HN3 := Lib.hid (HN1.out.trans (numB_d h8.out hd))
        clear HT0 hd
        try clear h
        try clear h8
        generalize dg l ((k1 + 1) + 1) = d2 at *
        go_wp2_with fail
        refine HT.out.mono ?_
        rintro e w4 ⟨rfl, hb, hg⟩
        have H4 := Lib.hid hb
        have G4 := Lib.hid (gb_trans G3.out hg)
        clear hb hg HT
        by_cases h : pk l d2 = 101
        · have HT := Lib.hid (vtake_yes 101 g a cap l m d2 s d w4 H4.out h (by decide))
          have h9 := Lib.hid (show pk l d2 = 101 ∨ pk l d2 = 69 from .inl h)
          clear h
          go_wp2_with fail
          refine HT.out.mono ?_
          rintro e w5 ⟨rfl, hb, hg⟩
          have H5 := Lib.hid hb
          have G5 := Lib.hid (gb_trans G4.out hg)
          clear hb hg HT
          by_cases h : pk l (d2 + 1) = 43
          · have HT := Lib.hid (vtake_yes 43 g a cap l m (d2 + 1) s d w5 H5.out h (by decide))
            have HN4 := Lib.hid (HN3.out.trans (numC_p h9.out h))
            clear h h9
            go_wp2_with fail
            refine HT.out.mono ?_
            rintro e w6 ⟨rfl, hb, hg⟩
            have H6 := Lib.hid hb
            have G6 := Lib.hid (gb_trans G5.out hg)
            clear hb hg HT
            have HT := Lib.hid (vdigits_any g a cap l m ((d2 + 1) + 1) s d w6 H6.out)
            generalize dg l ((d2 + 1) + 1) = dz at *
            generalize decide (((d2 + 1) + 1) < dz) = bz at *
            go_wp2_with fail
            refine HT.out.mono ?_
            rintro e w7 ⟨rfl, hb, hg⟩
            have H7 := Lib.hid hb
            have G7 := Lib.hid (gb_trans G6.out hg)
            clear hb hg HT
            go_wp2
            go_ret
            exact ⟨by rw [HN4.out]; rfl, by rw [HN4.out]; exact H7.out, G7.out⟩
          · have HT := Lib.hid (vtake_no 43 g a cap l m (d2 + 1) s d w5 H5.out h)
            have HN5 := Lib.hid (HN3.out.trans (numC_m h9.out h))
            clear h h9
            go_wp2_with fail
            refine HT.out.mono ?_
            rintro e w8 ⟨rfl, hb, hg⟩
            have H8 := Lib.hid hb
            have G8 := Lib.hid (gb_trans G5.out hg)
            clear hb hg HT
            have HT := Lib.hid (vtake_any 45 (by decide) g a cap l m (d2 + 1) s d w8 H8.out)
            generalize (if pk l (d2 + 1) = 45 then (d2 + 1) + 1 else (d2 + 1)) = j6 at *
            generalize decide (pk l (d2 + 1) = 45) = b6 at *
            go_wp2_with fail
            refine HT.out.mono ?_
            rintro e w9 ⟨rfl, hb, hg⟩
            have H9 := Lib.hid hb
            have G9 := Lib.hid (gb_trans G8.out hg)
            clear hb hg HT
            have HT := Lib.hid (vdigits_any g a cap l m j6 s d w9 H9.out)
            generalize dg l j6 = dz at *
            generalize decide (j6 < dz) = bz at *
            go_wp2_with fail
            refine HT.out.mono ?_
            rintro e w10 ⟨rfl, hb, hg⟩
            have H10 := Lib.hid hb
            have G10 := Lib.hid (gb_trans G9.out hg)
            clear hb hg HT
            go_wp2
            go_ret
            exact ⟨by rw [HN5.out]; rfl, by rw [HN5.out]; exact H10.out, G10.out⟩
        · have HT := Lib.hid (vtake_no 101 g a cap l m d2 s d w4 H4.out h)
          have h7 := Lib.hid h
          clear h
          go_wp2_with fail
          refine HT.out.mono ?_
          rintro e w11 ⟨rfl, hb, hg⟩
          have H11 := Lib.hid hb
          have G11 := Lib.hid (gb_trans G4.out hg)
          clear hb hg HT
          by_cases h : pk l d2 = 69
          · have HT := Lib.hid (vtake_yes 69 g a cap l m d2 s d w11 H11.out h (by decide))
            have h9 := Lib.hid (show pk l d2 = 101 ∨ pk l d2 = 69 from .inr h)
            clear h h7
            go_wp2_with fail
            refine HT.out.mono ?_
            rintro e w12 ⟨rfl, hb, hg⟩
            have H12 := Lib.hid hb
            have G12 := Lib.hid (gb_trans G11.out hg)
            clear hb hg HT
            by_cases h : pk l (d2 + 1) = 43
            · have HT := Lib.hid (vtake_yes 43 g a cap l m (d2 + 1) s d w12 H12.out h (by decide))
              have HN7 := Lib.hid (HN3.out.trans (numC_p h9.out h))
              clear h h9
              go_wp2_with fail
              refine HT.out.mono ?_
              rintro e w13 ⟨rfl, hb, hg⟩
              have H13 := Lib.hid hb
              have G13 := Lib.hid (gb_trans G12.out hg)
              clear hb hg HT
              have HT := Lib.hid (vdigits_any g a cap l m ((d2 + 1) + 1) s d w13 H13.out)
              generalize dg l ((d2 + 1) + 1) = dz at *
              generalize decide (((d2 + 1) + 1) < dz) = bz at *
              go_wp2_with fail
              refine HT.out.mono ?_
              rintro e w14 ⟨rfl, hb, hg⟩
              have H14 := Lib.hid hb
              have G14 := Lib.hid (gb_trans G13.out hg)
              clear hb hg HT
              go_wp2
              go_ret
              exact ⟨by rw [HN7.out]; rfl, by rw [HN7.out]; exact H14.out, G14.out⟩
            · have HT := Lib.hid (vtake_no 43 g a cap l m (d2 + 1) s d w12 H12.out h)
              have HN8 := Lib.hid (HN3.out.trans (numC_m h9.out h))
              clear h h9
              go_wp2_with fail
              refine HT.out.mono ?_
              rintro e w15 ⟨rfl, hb, hg⟩
              have H15 := Lib.hid hb
              have G15 := Lib.hid (gb_trans G12.out hg)
              clear hb hg HT
              have HT := Lib.hid (vtake_any 45 (by decide) g a cap l m (d2 + 1) s d w15 H15.out)
              generalize (if pk l (d2 + 1) = 45 then (d2 + 1) + 1 else (d2 + 1)) = j9 at *
              generalize decide (pk l (d2 + 1) = 45) = b9 at *
              go_wp2_with fail
              refine HT.out.mono ?_
              rintro e w16 ⟨rfl, hb, hg⟩
              have H16 := Lib.hid hb
              have G16 := Lib.hid (gb_trans G15.out hg)
              clear hb hg HT
              have HT := Lib.hid (vdigits_any g a cap l m j9 s d w16 H16.out)
              generalize dg l j9 = dz at *
              generalize decide (j9 < dz) = bz at *
              go_wp2_with fail
              refine HT.out.mono ?_
              rintro e w17 ⟨rfl, hb, hg⟩
              have H17 := Lib.hid hb
              have G17 := Lib.hid (gb_trans G16.out hg)
              clear hb hg HT
              go_wp2
              go_ret
              exact ⟨by rw [HN8.out]; rfl, by rw [HN8.out]; exact H17.out, G17.out⟩
          · have HT := Lib.hid (vtake_no 69 g a cap l m d2 s d w11 H11.out h)
            have HN10 := Lib.hid (HN3.out.trans (numC_n h7.out h))
            clear h h7
            go_wp2_with fail
            refine HT.out.mono ?_
            rintro e w18 ⟨rfl, hb, hg⟩
            have H18 := Lib.hid hb
            have G18 := Lib.hid (gb_trans G11.out hg)
            clear hb hg HT
            go_wp2
            go_ret
            exact ⟨by rw [HN10.out]; rfl, by rw [HN10.out]; exact H18.out, G18.out⟩
      · have HT := Lib.hid HT0.out
        unfold ResVB at HT
        rw [decide_eq_false hd] at HT
        have HN11 := Lib.hid (HN1.out.trans (numB_f h8.out hd))
        clear HT0 hd
        try clear h
        try clear h8
        generalize dg l ((k1 + 1) + 1) = d2 at *
        go_wp2_with fail
        refine HT.out.mono ?_
        rintro e w19 ⟨rfl, hb, hg⟩
        have H19 := Lib.hid hb
        have G19 := Lib.hid (gb_trans G3.out hg)
        clear hb hg HT
        go_wp2
        go_ret
        exact ⟨by rw [HN11.out]; rfl, by rw [HN11.out]; exact H19.out, G19.out⟩
    · have HT := Lib.hid (vtake_no 46 g a cap l m (k1 + 1) s d w2 H2.out h)
      have HN12 := Lib.hid (HN1.out.trans (numB_n h))
      clear h
      go_wp2_with fail
      refine HT.out.mono ?_
      rintro e w20 ⟨rfl, hb, hg⟩
      have H20 := Lib.hid hb
      have G20 := Lib.hid (gb_trans G2.out hg)
      clear hb hg HT
      by_cases h : pk l (k1 + 1) = 101
      · have HT := Lib.hid (vtake_yes 101 g a cap l m (k1 + 1) s d w20 H20.out h (by decide))
        have h9 := Lib.hid (show pk l (k1 + 1) = 101 ∨ pk l (k1 + 1) = 69 from .inl h)
        clear h
        go_wp2_with fail
        refine HT.out.mono ?_
        rintro e w21 ⟨rfl, hb, hg⟩
        have H21 := Lib.hid hb
        have G21 := Lib.hid (gb_trans G20.out hg)
        clear hb hg HT
        by_cases h : pk l ((k1 + 1) + 1) = 43
        · have HT := Lib.hid (vtake_yes 43 g a cap l m ((k1 + 1) + 1) s d w21 H21.out h (by decide))
          have HN13 := Lib.hid (HN12.out.trans (numC_p h9.out h))
          clear h h9
          go_wp2_with fail
          refine HT.out.mono ?_
          rintro e w22 ⟨rfl, hb, hg⟩
          have H22 := Lib.hid hb
          have G22 := Lib.hid (gb_trans G21.out hg)
          clear hb hg HT
          have HT := Lib.hid (vdigits_any g a cap l m (((k1 + 1) + 1) + 1) s d w22 H22.out)
          generalize dg l (((k1 + 1) + 1) + 1) = dz at *
          generalize decide ((((k1 + 1) + 1) + 1) < dz) = bz at *
          go_wp2_with fail
          refine HT.out.mono ?_
          rintro e w23 ⟨rfl, hb, hg⟩
          have H23 := Lib.hid hb
          have G23 := Lib.hid (gb_trans G22.out hg)
          clear hb hg HT
          go_wp2
          go_ret
          exact ⟨by rw [HN13.out]; rfl, by rw [HN13.out]; exact H23.out, G23.out⟩
        · have HT := Lib.hid (vtake_no 43 g a cap l m ((k1 + 1) + 1) s d w21 H21.out h)
          have HN14 := Lib.hid (HN12.out.trans (numC_m h9.out h))
          clear h h9
          go_wp2_with fail
          refine HT.out.mono ?_
          rintro e w24 ⟨rfl, hb, hg⟩
          have H24 := Lib.hid hb
          have G24 := Lib.hid (gb_trans G21.out hg)
          clear hb hg HT
          have HT := Lib.hid (vtake_any 45 (by decide) g a cap l m ((k1 + 1) + 1) s d w24 H24.out)
          generalize (if pk l ((k1 + 1) + 1) = 45 then ((k1 + 1) + 1) + 1 else ((k1 + 1) + 1)) = j15 at *
          generalize decide (pk l ((k1 + 1) + 1) = 45) = b15 at *
          go_wp2_with fail
          refine HT.out.mono ?_
          rintro e w25 ⟨rfl, hb, hg⟩
          have H25 := Lib.hid hb
          have G25 := Lib.hid (gb_trans G24.out hg)
          clear hb hg HT
          have HT := Lib.hid (vdigits_any g a cap l m j15 s d w25 H25.out)
          generalize dg l j15 = dz at *
          generalize decide (j15 < dz) = bz at *
          go_wp2_with fail
          refine HT.out.mono ?_
          rintro e w26 ⟨rfl, hb, hg⟩
          have H26 := Lib.hid hb
          have G26 := Lib.hid (gb_trans G25.out hg)
          clear hb hg HT
          go_wp2
          go_ret
          exact ⟨by rw [HN14.out]; rfl, by rw [HN14.out]; exact H26.out, G26.out⟩
      · have HT := Lib.hid (vtake_no 101 g a cap l m (k1 + 1) s d w20 H20.out h)
        have h7 := Lib.hid h
        clear h
        go_wp2_with fail
        refine HT.out.mono ?_
        rintro e w27 ⟨rfl, hb, hg⟩
        have H27 := Lib.hid hb
        have G27 := Lib.hid (gb_trans G20.out hg)
        clear hb hg HT
        by_cases h : pk l (k1 + 1) = 69
        · have HT := Lib.hid (vtake_yes 69 g a cap l m (k1 + 1) s d w27 H27.out h (by decide))
          have h9 := Lib.hid (show pk l (k1 + 1) = 101 ∨ pk l (k1 + 1) = 69 from .inr h)
          clear h h7
          go_wp2_with fail
          refine HT.out.mono ?_
          rintro e w28 ⟨rfl, hb, hg⟩
          have H28 := Lib.hid hb
          have G28 := Lib.hid (gb_trans G27.out hg)
          clear hb hg HT
          by_cases h : pk l ((k1 + 1) + 1) = 43
          · have HT := Lib.hid (vtake_yes 43 g a cap l m ((k1 + 1) + 1) s d w28 H28.out h (by decide))
            have HN16 := Lib.hid (HN12.out.trans (numC_p h9.out h))
            clear h h9
            go_wp2_with fail
            refine HT.out.mono ?_
            rintro e w29 ⟨rfl, hb, hg⟩
            have H29 := Lib.hid hb
            have G29 := Lib.hid (gb_trans G28.out hg)
            clear hb hg HT
            have HT := Lib.hid (vdigits_any g a cap l m (((k1 + 1) + 1) + 1) s d w29 H29.out)
            generalize dg l (((k1 + 1) + 1) + 1) = dz at *
            generalize decide ((((k1 + 1) + 1) + 1) < dz) = bz at *
            go_wp2_with fail
            refine HT.out.mono ?_
            rintro e w30 ⟨rfl, hb, hg⟩
            have H30 := Lib.hid hb
            have G30 := Lib.hid (gb_trans G29.out hg)
            clear hb hg HT
            go_wp2
            go_ret
            exact ⟨by rw [HN16.out]; rfl, by rw [HN16.out]; exact H30.out, G30.out⟩
          · have HT := Lib.hid (vtake_no 43 g a cap l m ((k1 + 1) + 1) s d w28 H28.out h)
            have HN17 := Lib.hid (HN12.out.trans (numC_m h9.out h))
            clear h h9
            go_wp2_with fail
            refine HT.out.mono ?_
            rintro e w31 ⟨rfl, hb, hg⟩
            have H31 := Lib.hid hb
            have G31 := Lib.hid (gb_trans G28.out hg)
            clear hb hg HT
            have HT := Lib.hid (vtake_any 45 (by decide) g a cap l m ((k1 + 1) + 1) s d w31 H31.out)
            generalize (if pk l ((k1 + 1) + 1) = 45 then ((k1 + 1) + 1) + 1 else ((k1 + 1) + 1)) = j18 at *
            generalize decide (pk l ((k1 + 1) + 1) = 45) = b18 at *
            go_wp2_with fail
            refine HT.out.mono ?_
            rintro e w32 ⟨rfl, hb, hg⟩
            have H32 := Lib.hid hb
            have G32 := Lib.hid (gb_trans G31.out hg)
            clear hb hg HT
            have HT := Lib.hid (vdigits_any g a cap l m j18 s d w32 H32.out)
            generalize dg l j18 = dz at *
            generalize decide (j18 < dz) = bz at *
            go_wp2_with fail
            refine HT.out.mono ?_
            rintro e w33 ⟨rfl, hb, hg⟩
            have H33 := Lib.hid hb
            have G33 := Lib.hid (gb_trans G32.out hg)
            clear hb hg HT
            go_wp2
            go_ret
            exact ⟨by rw [HN17.out]; rfl, by rw [HN17.out]; exact H33.out, G33.out⟩
        · have HT := Lib.hid (vtake_no 69 g a cap l m (k1 + 1) s d w27 H27.out h)
          have HN19 := Lib.hid (HN12.out.trans (numC_n h7.out h))
          clear h h7
          go_wp2_with fail
          refine HT.out.mono ?_
          rintro e w34 ⟨rfl, hb, hg⟩
          have H34 := Lib.hid hb
          have G34 := Lib.hid (gb_trans G27.out hg)
          clear hb hg HT
          go_wp2
          go_ret
          exact ⟨by rw [HN19.out]; rfl, by rw [HN19.out]; exact H34.out, G34.out⟩
  · have HT := Lib.hid (vtake_no 48 g a cap l m k1 s d w1 H1.out h)
    have h8 := Lib.hid h
    clear h
    go_wp2_with fail
    refine HT.out.mono ?_
    rintro e w35 ⟨rfl, hb, hg⟩
    have H35 := Lib.hid hb
    have G35 := Lib.hid (gb_trans G1.out hg)
    clear hb hg HT
    have HT0 := Lib.hid (vdigits_any g a cap l m k1 s d w35 H35.out)
    by_cases hd : k1 < dg l k1
    · have HT := Lib.hid HT0.out
      unfold ResVB at HT
      rw [decide_eq_true hd] at HT
      have HN21 := Lib.hid (HN.out.trans (numA_d h8.out hd))
      clear HT0 hd
      try clear h
      try clear h8
      generalize dg l k1 = d20 at *
      go_wp2_with fail
      refine HT.out.mono ?_
      rintro e w36 ⟨rfl, hb, hg⟩
      have H36 := Lib.hid hb
      have G36 := Lib.hid (gb_trans G35.out hg)
      clear hb hg HT
      by_cases h : pk l d20 = 46
      · have HT := Lib.hid (vtake_yes 46 g a cap l m d20 s d w36 H36.out h (by decide))
        have h8 := Lib.hid h
        clear h
        go_wp2_with fail
        refine HT.out.mono ?_
        rintro e w37 ⟨rfl, hb, hg⟩
        have H37 := Lib.hid hb
        have G37 := Lib.hid (gb_trans G36.out hg)
        clear hb hg HT
        have HT0 := Lib.hid (vdigits_any g a cap l m (d20 + 1) s d w37 H37.out)
        by_cases hd : (d20 + 1) < dg l (d20 + 1)
        · have HT := Lib.hid HT0.out
          unfold ResVB at HT
          rw [decide_eq_true hd] at HT
          have HN23 := Lib.hid (HN21.out.trans (numB_d h8.out hd))
          clear HT0 hd
          try clear h
          try clear h8
          generalize dg l (d20 + 1) = d22 at *
          go_wp2_with fail
          refine HT.out.mono ?_
          rintro e w38 ⟨rfl, hb, hg⟩
          have H38 := Lib.hid hb
          have G38 := Lib.hid (gb_trans G37.out hg)
          clear hb hg HT
          by_cases h : pk l d22 = 101
          · have HT := Lib.hid (vtake_yes 101 g a cap l m d22 s d w38 H38.out h (by decide))
            have h9 := Lib.hid (show pk l d22 = 101 ∨ pk l d22 = 69 from .inl h)
            clear h
            go_wp2_with fail
            refine HT.out.mono ?_
            rintro e w39 ⟨rfl, hb, hg⟩
            have H39 := Lib.hid hb
            have G39 := Lib.hid (gb_trans G38.out hg)
            clear hb hg HT
            by_cases h : pk l (d22 + 1) = 43
            · have HT := Lib.hid (vtake_yes 43 g a cap l m (d22 + 1) s d w39 H39.out h (by decide))
              have HN24 := Lib.hid (HN23.out.trans (numC_p h9.out h))
              clear h h9
              go_wp2_with fail
              refine HT.out.mono ?_
              rintro e w40 ⟨rfl, hb, hg⟩
              have H40 := Lib.hid hb
              have G40 := Lib.hid (gb_trans G39.out hg)
              clear hb hg HT
              have HT := Lib.hid (vdigits_any g a cap l m ((d22 + 1) + 1) s d w40 H40.out)
              generalize dg l ((d22 + 1) + 1) = dz at *
              generalize decide (((d22 + 1) + 1) < dz) = bz at *
              go_wp2_with fail
              refine HT.out.mono ?_
              rintro e w41 ⟨rfl, hb, hg⟩
              have H41 := Lib.hid hb
              have G41 := Lib.hid (gb_trans G40.out hg)
              clear hb hg HT
              go_wp2
              go_ret
              exact ⟨by rw [HN24.out]; rfl, by rw [HN24.out]; exact H41.out, G41.out⟩
            · have HT := Lib.hid (vtake_no 43 g a cap l m (d22 + 1) s d w39 H39.out h)
              have HN25 := Lib.hid (HN23.out.trans (numC_m h9.out h))
              clear h h9
              go_wp2_with fail
              refine HT.out.mono ?_
              rintro e w42 ⟨rfl, hb, hg⟩
              have H42 := Lib.hid hb
              have G42 := Lib.hid (gb_trans G39.out hg)
              clear hb hg HT
              have HT := Lib.hid (vtake_any 45 (by decide) g a cap l m (d22 + 1) s d w42 H42.out)
              generalize (if pk l (d22 + 1) = 45 then (d22 + 1) + 1 else (d22 + 1)) = j26 at *
              generalize decide (pk l (d22 + 1) = 45) = b26 at *
              go_wp2_with fail
              refine HT.out.mono ?_
              rintro e w43 ⟨rfl, hb, hg⟩
              have H43 := Lib.hid hb
              have G43 := Lib.hid (gb_trans G42.out hg)
              clear hb hg HT
              have HT := Lib.hid (vdigits_any g a cap l m j26 s d w43 H43.out)
              generalize dg l j26 = dz at *
              generalize decide (j26 < dz) = bz at *
              go_wp2_with fail
              refine HT.out.mono ?_
              rintro e w44 ⟨rfl, hb, hg⟩
              have H44 := Lib.hid hb
              have G44 := Lib.hid (gb_trans G43.out hg)
              clear hb hg HT
              go_wp2
              go_ret
              exact ⟨by rw [HN25.out]; rfl, by rw [HN25.out]; exact H44.out, G44.out⟩
          · have HT := Lib.hid (vtake_no 101 g a cap l m d22 s d w38 H38.out h)
            have h7 := Lib.hid h
            clear h
            go_wp2_with fail
            refine HT.out.mono ?_
            rintro e w45 ⟨rfl, hb, hg⟩
            have H45 := Lib.hid hb
            have G45 := Lib.hid (gb_trans G38.out hg)
            clear hb hg HT
            by_cases h : pk l d22 = 69
            · have HT := Lib.hid (vtake_yes 69 g a cap l m d22 s d w45 H45.out h (by decide))
              have h9 := Lib.hid (show pk l d22 = 101 ∨ pk l d22 = 69 from .inr h)
              clear h h7
              go_wp2_with fail
              refine HT.out.mono ?_
              rintro e w46 ⟨rfl, hb, hg⟩
              have H46 := Lib.hid hb
              have G46 := Lib.hid (gb_trans G45.out hg)
              clear hb hg HT
              by_cases h : pk l (d22 + 1) = 43
              · have HT := Lib.hid (vtake_yes 43 g a cap l m (d22 + 1) s d w46 H46.out h (by decide))
                have HN27 := Lib.hid (HN23.out.trans (numC_p h9.out h))
                clear h h9
                go_wp2_with fail
                refine HT.out.mono ?_
                rintro e w47 ⟨rfl, hb, hg⟩
                have H47 := Lib.hid hb
                have G47 := Lib.hid (gb_trans G46.out hg)
                clear hb hg HT
                have HT := Lib.hid (vdigits_any g a cap l m ((d22 + 1) + 1) s d w47 H47.out)
                generalize dg l ((d22 + 1) + 1) = dz at *
                generalize decide (((d22 + 1) + 1) < dz) = bz at *
                go_wp2_with fail
                refine HT.out.mono ?_
                rintro e w48 ⟨rfl, hb, hg⟩
                have H48 := Lib.hid hb
                have G48 := Lib.hid (gb_trans G47.out hg)
                clear hb hg HT
                go_wp2
                go_ret
                exact ⟨by rw [HN27.out]; rfl, by rw [HN27.out]; exact H48.out, G48.out⟩
              · have HT := Lib.hid (vtake_no 43 g a cap l m (d22 + 1) s d w46 H46.out h)
                have HN28 := Lib.hid (HN23.out.trans (numC_m h9.out h))
                clear h h9
                go_wp2_with fail
                refine HT.out.mono ?_
                rintro e w49 ⟨rfl, hb, hg⟩
                have H49 := Lib.hid hb
                have G49 := Lib.hid (gb_trans G46.out hg)
                clear hb hg HT
                have HT := Lib.hid (vtake_any 45 (by decide) g a cap l m (d22 + 1) s d w49 H49.out)
                generalize (if pk l (d22 + 1) = 45 then (d22 + 1) + 1 else (d22 + 1)) = j29 at *
                generalize decide (pk l (d22 + 1) = 45) = b29 at *
                go_wp2_with fail
                refine HT.out.mono ?_
                rintro e w50 ⟨rfl, hb, hg⟩
                have H50 := Lib.hid hb
                have G50 := Lib.hid (gb_trans G49.out hg)
                clear hb hg HT
                have HT := Lib.hid (vdigits_any g a cap l m j29 s d w50 H50.out)
                generalize dg l j29 = dz at *
                generalize decide (j29 < dz) = bz at *
                go_wp2_with fail
                refine HT.out.mono ?_
                rintro e w51 ⟨rfl, hb, hg⟩
                have H51 := Lib.hid hb
                have G51 := Lib.hid (gb_trans G50.out hg)
                clear hb hg HT
                go_wp2
                go_ret
                exact ⟨by rw [HN28.out]; rfl, by rw [HN28.out]; exact H51.out, G51.out⟩
            · have HT := Lib.hid (vtake_no 69 g a cap l m d22 s d w45 H45.out h)
              have HN30 := Lib.hid (HN23.out.trans (numC_n h7.out h))
              clear h h7
              go_wp2_with fail
              refine HT.out.mono ?_
              rintro e w52 ⟨rfl, hb, hg⟩
              have H52 := Lib.hid hb
              have G52 := Lib.hid (gb_trans G45.out hg)
              clear hb hg HT
              go_wp2
              go_ret
              exact ⟨by rw [HN30.out]; rfl, by rw [HN30.out]; exact H52.out, G52.out⟩
        · have HT := Lib.hid HT0.out
          unfold ResVB at HT
          rw [decide_eq_false hd] at HT
          have HN31 := Lib.hid (HN21.out.trans (numB_f h8.out hd))
          clear HT0 hd
          try clear h
          try clear h8
          generalize dg l (d20 + 1) = d22 at *
          go_wp2_with fail
          refine HT.out.mono ?_
          rintro e w53 ⟨rfl, hb, hg⟩
          have H53 := Lib.hid hb
          have G53 := Lib.hid (gb_trans G37.out hg)
          clear hb hg HT
          go_wp2
          go_ret
          exact ⟨by rw [HN31.out]; rfl, by rw [HN31.out]; exact H53.out, G53.out⟩
      · have HT := Lib.hid (vtake_no 46 g a cap l m d20 s d w36 H36.out h)
        have HN32 := Lib.hid (HN21.out.trans (numB_n h))
        clear h
        go_wp2_with fail
        refine HT.out.mono ?_
        rintro e w54 ⟨rfl, hb, hg⟩
        have H54 := Lib.hid hb
        have G54 := Lib.hid (gb_trans G36.out hg)
        clear hb hg HT
        by_cases h : pk l d20 = 101
        · have HT := Lib.hid (vtake_yes 101 g a cap l m d20 s d w54 H54.out h (by decide))
          have h9 := Lib.hid (show pk l d20 = 101 ∨ pk l d20 = 69 from .inl h)
          clear h
          go_wp2_with fail
          refine HT.out.mono ?_
          rintro e w55 ⟨rfl, hb, hg⟩
          have H55 := Lib.hid hb
          have G55 := Lib.hid (gb_trans G54.out hg)
          clear hb hg HT
          by_cases h : pk l (d20 + 1) = 43
          · have HT := Lib.hid (vtake_yes 43 g a cap l m (d20 + 1) s d w55 H55.out h (by decide))
            have HN33 := Lib.hid (HN32.out.trans (numC_p h9.out h))
            clear h h9
            go_wp2_with fail
            refine HT.out.mono ?_
            rintro e w56 ⟨rfl, hb, hg⟩
            have H56 := Lib.hid hb
            have G56 := Lib.hid (gb_trans G55.out hg)
            clear hb hg HT
            have HT := Lib.hid (vdigits_any g a cap l m ((d20 + 1) + 1) s d w56 H56.out)
            generalize dg l ((d20 + 1) + 1) = dz at *
            generalize decide (((d20 + 1) + 1) < dz) = bz at *
            go_wp2_with fail
            refine HT.out.mono ?_
            rintro e w57 ⟨rfl, hb, hg⟩
            have H57 := Lib.hid hb
            have G57 := Lib.hid (gb_trans G56.out hg)
            clear hb hg HT
            go_wp2
            go_ret
            exact ⟨by rw [HN33.out]; rfl, by rw [HN33.out]; exact H57.out, G57.out⟩
          · have HT := Lib.hid (vtake_no 43 g a cap l m (d20 + 1) s d w55 H55.out h)
            have HN34 := Lib.hid (HN32.out.trans (numC_m h9.out h))
            clear h h9
            go_wp2_with fail
            refine HT.out.mono ?_
            rintro e w58 ⟨rfl, hb, hg⟩
            have H58 := Lib.hid hb
            have G58 := Lib.hid (gb_trans G55.out hg)
            clear hb hg HT
            have HT := Lib.hid (vtake_any 45 (by decide) g a cap l m (d20 + 1) s d w58 H58.out)
            generalize (if pk l (d20 + 1) = 45 then (d20 + 1) + 1 else (d20 + 1)) = j35 at *
            generalize decide (pk l (d20 + 1) = 45) = b35 at *
            go_wp2_with fail
            refine HT.out.mono ?_
            rintro e w59 ⟨rfl, hb, hg⟩
            have H59 := Lib.hid hb
            have G59 := Lib.hid (gb_trans G58.out hg)
            clear hb hg HT
            have HT := Lib.hid (vdigits_any g a cap l m j35 s d w59 H59.out)
            generalize dg l j35 = dz at *
            generalize decide (j35 < dz) = bz at *
            go_wp2_with fail
            refine HT.out.mono ?_
            rintro e w60 ⟨rfl, hb, hg⟩
            have H60 := Lib.hid hb
            have G60 := Lib.hid (gb_trans G59.out hg)
            clear hb hg HT
            go_wp2
            go_ret
            exact ⟨by rw [HN34.out]; rfl, by rw [HN34.out]; exact H60.out, G60.out⟩
        · have HT := Lib.hid (vtake_no 101 g a cap l m d20 s d w54 H54.out h)
          have h7 := Lib.hid h
          clear h
          go_wp2_with fail
          refine HT.out.mono ?_
          rintro e w61 ⟨rfl, hb, hg⟩
          have H61 := Lib.hid hb
          have G61 := Lib.hid (gb_trans G54.out hg)
          clear hb hg HT
          by_cases h : pk l d20 = 69
          · have HT := Lib.hid (vtake_yes 69 g a cap l m d20 s d w61 H61.out h (by decide))
            have h9 := Lib.hid (show pk l d20 = 101 ∨ pk l d20 = 69 from .inr h)
            clear h h7
            go_wp2_with fail
            refine HT.out.mono ?_
            rintro e w62 ⟨rfl, hb, hg⟩
            have H62 := Lib.hid hb
            have G62 := Lib.hid (gb_trans G61.out hg)
            clear hb hg HT
            by_cases h : pk l (d20 + 1) = 43
            · have HT := Lib.hid (vtake_yes 43 g a cap l m (d20 + 1) s d w62 H62.out h (by decide))
              have HN36 := Lib.hid (HN32.out.trans (numC_p h9.out h))
              clear h h9
              go_wp2_with fail
              refine HT.out.mono ?_
              rintro e w63 ⟨rfl, hb, hg⟩
              have H63 := Lib.hid hb
              have G63 := Lib.hid (gb_trans G62.out hg)
              clear hb hg HT
              have HT := Lib.hid (vdigits_any g a cap l m ((d20 + 1) + 1) s d w63 H63.out)
              generalize dg l ((d20 + 1) + 1) = dz at *
              generalize decide (((d20 + 1) + 1) < dz) = bz at *
              go_wp2_with fail
              refine HT.out.mono ?_
              rintro e w64 ⟨rfl, hb, hg⟩
              have H64 := Lib.hid hb
              have G64 := Lib.hid (gb_trans G63.out hg)
              clear hb hg HT
              go_wp2
              go_ret
              exact ⟨by rw [HN36.out]; rfl, by rw [HN36.out]; exact H64.out, G64.out⟩
            · have HT := Lib.hid (vtake_no 43 g a cap l m (d20 + 1) s d w62 H62.out h)
              have HN37 := Lib.hid (HN32.out.trans (numC_m h9.out h))
              clear h h9
              go_wp2_with fail
              refine HT.out.mono ?_
              rintro e w65 ⟨rfl, hb, hg⟩
              have H65 := Lib.hid hb
              have G65 := Lib.hid (gb_trans G62.out hg)
              clear hb hg HT
              have HT := Lib.hid (vtake_any 45 (by decide) g a cap l m (d20 + 1) s d w65 H65.out)
              generalize (if pk l (d20 + 1) = 45 then (d20 + 1) + 1 else (d20 + 1)) = j38 at *
              generalize decide (pk l (d20 + 1) = 45) = b38 at *
              go_wp2_with fail
              refine HT.out.mono ?_
              rintro e w66 ⟨rfl, hb, hg⟩
              have H66 := Lib.hid hb
              have G66 := Lib.hid (gb_trans G65.out hg)
              clear hb hg HT
              have HT := Lib.hid (vdigits_any g a cap l m j38 s d w66 H66.out)
              generalize dg l j38 = dz at *
              generalize decide (j38 < dz) = bz at *
              go_wp2_with fail
              refine HT.out.mono ?_
              rintro e w67 ⟨rfl, hb, hg⟩
              have H67 := Lib.hid hb
              have G67 := Lib.hid (gb_trans G66.out hg)
              clear hb hg HT
              go_wp2
              go_ret
              exact ⟨by rw [HN37.out]; rfl, by rw [HN37.out]; exact H67.out, G67.out⟩
          · have HT := Lib.hid (vtake_no 69 g a cap l m d20 s d w61 H61.out h)
            have HN39 := Lib.hid (HN32.out.trans (numC_n h7.out h))
            clear h h7
            go_wp2_with fail
            refine HT.out.mono ?_
            rintro e w68 ⟨rfl, hb, hg⟩
            have H68 := Lib.hid hb
            have G68 := Lib.hid (gb_trans G61.out hg)
            clear hb hg HT
            go_wp2
            go_ret
            exact ⟨by rw [HN39.out]; rfl, by rw [HN39.out]; exact H68.out, G68.out⟩
    · have HT := Lib.hid HT0.out
      unfold ResVB at HT
      rw [decide_eq_false hd] at HT
      have HN40 := Lib.hid (HN.out.trans (numA_f h8.out hd))
      clear HT0 hd
      try clear h
      try clear h8
      generalize dg l k1 = d20 at *
      go_wp2_with fail
      refine HT.out.mono ?_
      rintro e w69 ⟨rfl, hb, hg⟩
      have H69 := Lib.hid hb
      have G69 := Lib.hid (gb_trans G35.out hg)
      clear hb hg HT
      go_wp2
      go_ret
      exact ⟨by rw [HN40.out]; rfl, by rw [HN40.out]; exact H69.out, G69.out⟩
end Go.Proofs.YtefaieglhllioaaDoor
