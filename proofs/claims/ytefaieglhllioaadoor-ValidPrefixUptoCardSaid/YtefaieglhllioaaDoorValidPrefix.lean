/- Walk of the law ValidPrefix. -/
import Derived.Test.YtefaieglhllioaaDoorValidSpans
namespace Go.Proofs.YtefaieglhllioaaDoor
open Go.RowKit UM QM VM

/-- Check of bytes of which it is known what it tells; n is how many there are -/
theorem Check_at {depth : Int} {a : Option Addr} {cap n : Nat} {l : List Nat} {w : World} {sp : List (Nat × Nat)} {j y : Nat} (hc : Ck quoF l (mostF depth) 0 sp j y) (hn : n = l.length) (hl : l.length ≤ 1000000000000) (hlo : LM.Lo 256 l) (hrd : Rd w .u8 a l) (ht : Sh w) (hcp : l.length ≤ cap) :
    Calls Tryd.prog 8 #[.slice a n cap, .int .i64 depth] w (ResCs sp j y w) := by
  subst hn
  exact Check_of hc hl hlo hrd ht hcp
theorem lo_appV {l m : List Nat} (h : LM.Lo 256 l) (h2 : LM.Lo 256 m) : LM.Lo 256 (l ++ m) := fun x hx => by
  rcases List.mem_append.1 hx with h' | h'
  · exact h x h'
  · exact h2 x h'
theorem pk_pre {l m : List Nat} {j i : Nat} (hj : j < l.length) (hi : i ≤ j) : pk (l.take (j + 1) ++ m) i = pk l i := by
  unfold QM.pk
  rw [List.length_append, List.length_take, if_pos (by omega), if_pos (by omega), List.getElem?_append_left (by rw [List.length_take]; omega), List.getElem?_take, if_pos (by omega)]
set_option maxRecDepth 100000 in
set_option maxHeartbeats 8000000 in
theorem prefix_some {ad : Addr} {cap cap2 : Nat} {a2 : Option Addr} {depth : Int} {l more : List Nat} (w : World) (ht : Sh w) (hl : l.length ≤ 1048576) (hlo : LM.Lo 256 l) (hcp : l.length ≤ cap) (hr : Rd w .u8 (some ad) l)
    (hl2 : more.length ≤ 1048576) (hlo2 : LM.Lo 256 more) (hr2 : Rd w .u8 a2 more) (hnil2 : a2 = none → more.length = 0 ∧ cap2 = 0) :
    Calls Tryd.prog 3 #[.slice (some ad) l.length cap, .int .i64 depth, .slice a2 more.length cap2] w fun r w' => r = .returned (.bool true) ∧ Below w.heap.size w w' := by
  have HT := Lib.hid ht; have HR := Lib.hid hr; have HLO := Lib.hid hlo; have HR2 := Lib.hid hr2; have HLO2 := Lib.hid hlo2; have HNIL := Lib.hid hnil2
  have HC1 := Lib.hid (fun W (h : Rd W .u8 (some ad) l) (t : Sh W) => Check_any depth (some ad) cap l W (by omega) hlo h t hcp)
  clear ht hr hlo hr2 hlo2 hnil2
  go_enter Tryd.func3, Tryd.ntmps3
  go_wp2_with fail
  refine (vshown_any _ HT.out).mono ?_
  rintro r w1 ⟨rfl, hb⟩
  have G1 : Hid (Goes w w1) := Lib.hid ⟨hb, HT.out.below hb⟩
  have R1 := Lib.hid (HR.out.below hb)
  have S1 := Lib.hid (HR2.out.below hb)
  clear hb HT HR HR2
  go_wp2_with fail
  refine (HC1.out _ R1.out G1.out.2).mono ?_
  rintro r w2 ⟨sp, j, y, ao, ca, hck, rfl, ho, hb⟩
  have G2 := Lib.hid (G1.out.next hb)
  have R2 := Lib.hid (R1.out.below hb)
  have S2 := Lib.hid (S1.out.below hb)
  have K := Lib.hid hck
  have hends := Ck.ends quo_ok hck (Nat.zero_le _)
  have hj := (Ck.ge quo_ok hck (Nat.zero_le _)).2
  obtain ⟨sp2, y2, hup, hy2⟩ := Ck.upto quo_law hck (Nat.zero_le _)
  have HM : Hid (j = (l.take j).length) := Lib.hid (by rw [List.length_take]; omega)
  have HC2 := Lib.hid (fun a3 c3 W (h : Rd W .u8 a3 (l.take j)) (t : Sh W) (hc : (l.take j).length ≤ c3) => Check_at (depth := depth) (a := a3) (cap := c3) (n := j) hup HM.out (by rw [List.length_take]; omega) (lo_takeV HLO.out j) h t hc)
  have HC3 : Hid ((y = 1 ∨ y = 3) → j < l.length → pk l j ≤ 127 → ∃ sp3, Ck quoF (l.take (j + 1) ++ more) (mostF depth) 0 sp3 j y) := Lib.hid (fun _ h1 h2 => Ck.wrong quo_law hck (Nat.zero_le _) h1 (by rw [List.length_append, List.length_take]; omega) (fun i hi => pk_pre h1 hi) h2)
  clear hb ho hck HC1 G1 R1 S1 hup
  go_upto_region 3 with (fail)
  obtain ⟨hbA, z0, z1⟩ := boxF (w := w2) (x := (j : Int)) (y := (y : Int)) rfl
  have G3 := Lib.hid (G2.out.next hbA)
  have R3 := Lib.hid (R2.out.below hbA)
  have S3 := Lib.hid (S2.out.below hbA)
  clear hbA G2 R2 S2
  generalize hbx : w2.heap.size = bx at *
  clear hbx
  generalize w2.alloc (.cells #[.int .i64 (j : Int), .int .i64 (y : Int)] 26) = w3 at *
  have j0 : ¬ (j : Int) < 0 := by omega
  have j1 : ¬ (l.length : Int) < (j : Int) := by omega
  have j2 : (j : Int) ≤ (cap : Int) := by omega
  have O0 : Hid (Own (w3.alloc (.cells #[] 5)) w3.heap.size 5 .u8 (some ⟨w3.heap.size, 0, none⟩) 0 []) := Lib.hid (World.ownsRow_lit w3 #[] 0 (Nat.le_refl _) (by decide) rfl)
  have B0 : Below w3.heap.size w3 (w3.alloc (.cells #[] 5)) := (Below.refl _ _).alloc (Nat.le_refl _) _
  have z0a := cellP B0 z0
  have z1a := cellP B0 z1
  have B3 := Lib.hid B0
  have R4 := Lib.hid ((R3.out.below B0).takeV j)
  clear B0
  have t0 : y = 0 ∨ y = 2 ∨ (¬ y = 0 ∧ ¬ y = 2) := by omega
  rcases t0 with t0 | t0 | ⟨t0, t2⟩
  all_goals
    first
      | (have q0 : ((y : Int) == 0) = true := by simp [t0])
      | (have q0 : ((y : Int) == 0) = false := by rw [beq_eq_false_iff_ne]; omega)
    first
      | (have q2 : ((y : Int) == 2) = true := by rw [beq_iff_eq]; omega)
      | (have q2 : ((y : Int) == 2) = false := by rw [beq_eq_false_iff_ne]; omega)
      | skip
    first
      | (have q3 : ((j : Int) != (l.length : Int)) = false := by rw [bne_eq_false_iff_eq]; omega)
      | (have q3 : ¬ (l.length : Int) ≤ (j : Int) := by omega)
    clear hends
    go_upto_region 5 with (fail)
    go_upto_region 6 with (first | ((with_reducible refine HO9.out.mono ?_); rintro r w9 ⟨ao9, c9, rfl, _, hb⟩; have G9 := Lib.hid (G7.out.next hb); have z0b := cellP (HBw.out.trans (hb.mono HBw.out.size)) z0; have z1b := cellP (HBw.out.trans (hb.mono HBw.out.size)) z1; have R9 := Lib.hid (R3.out.below (HBw.out.trans (hb.mono HBw.out.size))); have S9 := Lib.hid (S3.out.below (HBw.out.trans (hb.mono HBw.out.size))); clear hb HO9 G7 HBw) | (at_builtin; refine wp_ownarg (w3.alloc (.cells #[] 5)) rfl _ _ 22 rfl w3.heap.size 5 Tryd.underlying22 infoU8 _ 0 _ [] rfl rfl O0.out (by simp) (some ad) _ cap (l.take j) HM.out rfl R4.out (fun h => by cases h) (by rw [← HM.out]; simp; omega) ?_; intro a3 c3 w7 h1 h2; have HBw : Hid (Below w3.heap.size w3 w7) := Lib.hid (B3.out.trans (h2.mono (Nat.le_refl _))); have G7 := Lib.hid (G3.out.next HBw.out); have h1' : Own w7 w3.heap.size 5 .u8 a3 c3 (l.take j) := h1; have HO9 : Hid (Calls Tryd.prog 8 #[.slice a3 j c3, .int .i64 depth] w7 (ResCs sp2 j y2 w7)) := Lib.hid (HC2.out a3 c3 w7 h1'.rd G7.out.2 h1'.cap.1); have L3 : Hid (([] ++ l.take j).length = j) := Lib.hid HM.out.symm; rw [L3.out]; unfold ResCs at HO9; clear h1 h1' h2 z0a z1a))
    obtain ⟨hbA, x0, x1⟩ := boxF (w := w9) (x := (j : Int)) (y := (y2 : Int)) rfl
    have GA := Lib.hid (G9.out.next hbA)
    have RA := Lib.hid (R9.out.below hbA)
    have SA := Lib.hid (S9.out.below hbA)
    have w0b := cellP hbA z0b
    have w1b := cellP hbA z1b
    clear hbA G9 R9 S9 z0b z1b z0 z1 R4 B3 O0 R3 S3 G3
    generalize hby : w9.heap.size = by9 at *
    clear hby
    generalize w9.alloc (.cells #[.int .i64 (j : Int), .int .i64 (y2 : Int)] 26) = wA at *
    have v0 : y2 = 0 ∨ y2 = 2 := hy2
    have v1 : ((y2 : Int) != 0) = false ∨ (((y2 : Int) != 0) = true ∧ ((y2 : Int) != 2) = false) := by
      rcases v0 with h | h <;> subst h
      · exact .inl rfl
      · exact .inr ⟨rfl, rfl⟩
    clear hy2 v0
  · have GF := Lib.hid GA
    rcases v1 with v1 | ⟨v1, v2⟩
    all_goals
      clear t0 HC2 HC3
      go_wp2
      go_ret
      exact ⟨rfl, GA.out.1⟩
  · rcases v1 with v1 | ⟨v1, v2⟩
    all_goals
      clear t0 HC2 HC3
      go_wp2
      go_ret
      exact ⟨rfl, GA.out.1⟩
  · have hjl : j < l.length := by omega
    have hy13 : y = 1 ∨ y = 3 := by
      rcases Ck.ends quo_ok K.out (Nat.zero_le _) with h | h <;> omega
    obtain ⟨b9, o9, x, ea, HX, hx, hcx⟩ := RA.out.get HLO.out j hjl
    cases ea
    have hpx : pk l j = (x : Int) := by rw [HX.out]; exact if_pos hjl
    have H3 := Lib.hid (fun h => HC3.out hy13 hjl h)
    rw [hpx] at H3
    clear HC3 HC2 hpx HX hy13 t0 t2 K
    by_cases h7 : 127 < x
    · have h7' : (127 : Int) < (x : Int) := by omega
      clear H3 h7
      rcases v1 with v1 | ⟨v1, v2⟩
      all_goals
        go_wp2
        go_ret
        exact ⟨rfl, GA.out.1⟩
    · have h7' : ¬ (127 : Int) < (x : Int) := by omega
      obtain ⟨sp3, hck3⟩ := H3.out (by omega)
      have HM2 : Hid (j + 1 = (l.take (j + 1)).length) := Lib.hid (by rw [List.length_take]; omega)
      have HL2 : Hid ((([] ++ l.take (j + 1)) ++ more).length = j + 1 + more.length) := Lib.hid (by rw [List.length_append, List.nil_append, ← HM2.out])
      have HC4 := Lib.hid (fun a4 c4 W (h : Rd W .u8 a4 (l.take (j + 1) ++ more)) (t : Sh W) (hc : (l.take (j + 1) ++ more).length ≤ c4) => Check_at (depth := depth) (a := a4) (cap := c4) (n := j + 1 + more.length) hck3 HL2.out.symm (by rw [List.length_append, List.length_take]; omega) (lo_appV (lo_takeV HLO.out _) HLO2.out) h t hc)
      have j3 : (j : Int) + 1 ≤ (cap : Int) := by omega
      clear H3 h7 hck3
      rcases v1 with v1 | ⟨v1, v2⟩
      all_goals
        go_upto_region 12 with (fail)
        have O0 : Hid (Own (wA.alloc (.cells #[] 5)) wA.heap.size 5 .u8 (some ⟨wA.heap.size, 0, none⟩) 0 []) := Lib.hid (World.ownsRow_lit wA #[] 0 (Nat.le_refl _) (by decide) rfl)
        have B0 : Below wA.heap.size wA (wA.alloc (.cells #[] 5)) := (Below.refl _ _).alloc (Nat.le_refl _) _
        have z0a := cellP B0 w0b
        have z1a := cellP B0 w1b
        have BA := Lib.hid B0
        have RB := Lib.hid ((RA.out.below B0).takeV (j + 1))
        clear B0
        go_upto_region 13 with (first | ((with_reducible refine HO9.out.mono ?_); rintro r wC ⟨aoC, cC, rfl, _, hb⟩; have GC := Lib.hid (GD.out.next hb); have u0 := cellP (HBx.out.trans (hb.mono HBx.out.size)) w0b; have u1 := cellP (HBx.out.trans (hb.mono HBx.out.size)) w1b; clear hb HO9 GD HBx) | (at_builtin; refine wp_ownarg w8 rfl _ _ 22 rfl wA.heap.size 5 Tryd.underlying22 infoU8 a3 c3 _ ([] ++ l.take (j + 1)) L8.out.symm rfl O8.out HB8.out.size a2 _ cap2 more rfl rfl (SA.out.below HB8.out) HNIL.out (by rw [L8.out]; omega) ?_; intro a5 c5 wD h1 h2; have HBx : Hid (Below wA.heap.size wA wD) := Lib.hid (HB8.out.trans h2); have GD := Lib.hid (GA.out.next HBx.out); have h1' : Own wD wA.heap.size 5 .u8 a5 c5 (l.take (j + 1) ++ more) := h1; have HO9 : Hid (Calls Tryd.prog 8 #[.slice a5 (j + 1 + more.length) c5, .int .i64 depth] wD (ResCs sp3 j y wD)) := Lib.hid (HC4.out a5 c5 wD h1'.rd GD.out.2 h1'.cap.1); rw [HL2.out]; unfold ResCs at HO9; clear h1 h1' h2) | (at_builtin; refine wp_ownarg (wA.alloc (.cells #[] 5)) rfl _ _ 22 rfl wA.heap.size 5 Tryd.underlying22 infoU8 _ 0 _ [] rfl rfl O0.out (by simp) _ _ cap (l.take (j + 1)) HM2.out rfl RB.out (fun h => by cases h) (by rw [← HM2.out]; simp; omega) ?_; intro a3 c3 w8 h1 h2; have HB8 : Hid (Below wA.heap.size wA w8) := Lib.hid (BA.out.trans (h2.mono (Nat.le_refl _))); have O8 : Hid (Own w8 wA.heap.size 5 .u8 a3 c3 ([] ++ l.take (j + 1))) := Lib.hid h1; have L8 : Hid (([] ++ l.take (j + 1)).length = j + 1) := Lib.hid HM2.out.symm; rw [L8.out]; clear h1 h2 z0a z1a))
        obtain ⟨hbA, x0, x1⟩ := boxF (w := wC) (x := (j : Int)) (y := (y : Int)) rfl
        have GE := Lib.hid (GC.out.next hbA)
        have u0b := cellP hbA u0
        have u1b := cellP hbA u1
        clear hbA GC u0 u1 w0b w1b
        generalize hby : wC.heap.size = byC at *
        clear hby
        generalize wC.alloc (.cells #[.int .i64 (j : Int), .int .i64 (y : Int)] 26) = wE at *
        go_wp2
        go_ret
        exact ⟨rfl, GE.out.1⟩
theorem ck_nil (m : Nat) : Ck quoF [] m 0 [] 0 0 := Ck.done (l := []) rfl
theorem Check_nil {depth : Int} {a : Option Addr} {cap : Nat} {w : World} (ht : Sh w) : Calls Tryd.prog 8 #[.slice a 0 cap, .int .i64 depth] w fun e w' => ∃ ao c, e = .returned (.tuple #[.slice ao 0 c, .agg #[.int .i64 0, .int .i64 0]]) ∧ Below w.heap.size w w' := by
  refine (Check_at (l := []) (ck_nil _) rfl (by simp) (fun x h => by cases h) (Rd.nil _ _ _) ht (Nat.zero_le _)).mono ?_
  rintro e w' ⟨ao, c, he, _, hb⟩
  exact ⟨ao, c, he, hb⟩
set_option maxRecDepth 100000 in
set_option maxHeartbeats 4000000 in
theorem prefix_none {len2 cap2 : Nat} {a2 : Option Addr} {depth : Int} (w : World) (ht : Sh w) :
    Calls Tryd.prog 3 #[.slice none 0 0, .int .i64 depth, .slice a2 len2 cap2] w fun r w' => r = .returned (.bool true) ∧ Below w.heap.size w w' := by
  have HT := Lib.hid ht
  have HC := Lib.hid (fun W a (t : Sh W) => Check_nil (depth := depth) (a := a) (cap := 0) (w := W) t)
  clear ht
  go_enter Tryd.func3, Tryd.ntmps3
  go_wp2_with fail
  refine (vshown_any _ HT.out).mono ?_
  rintro r w1 ⟨rfl, hb⟩
  have G1 : Hid (Goes w w1) := Lib.hid ⟨hb, HT.out.below hb⟩
  clear hb HT
  go_wp2_with fail
  refine (HC.out _ _ G1.out.2).mono ?_
  rintro r w2 ⟨ao, ca, rfl, hb⟩
  have G2 := Lib.hid (G1.out.next hb)
  clear hb G1
  go_upto_region 3 with (fail)
  obtain ⟨hbA, z0, z1⟩ := boxF (w := w2) (x := 0) (y := 0) rfl
  have G3 := Lib.hid (G2.out.next hbA)
  clear hbA G2
  generalize hbx : w2.heap.size = bx at *
  clear hbx
  generalize w2.alloc (.cells #[.int .i64 0, .int .i64 0] 26) = w3 at *
  have B0 : Below w3.heap.size w3 (w3.alloc (.cells #[] 5)) := (Below.refl _ _).alloc (Nat.le_refl _) _
  have z0a := cellP B0 z0
  have z1a := cellP B0 z1
  have G4 := Lib.hid (G3.out.next B0)
  have HC2 := Lib.hid (HC.out _ (some ⟨w3.heap.size, 0, none⟩) G4.out.2)
  clear B0 G3 HC
  go_upto_region 6 with ((with_reducible refine HC2.out.mono ?_); rintro r w5 ⟨ao5, c5, rfl, hb⟩; have G5 := Lib.hid (G4.out.next hb); have u0 := cellP hb z0a; have u1 := cellP hb z1a; clear hb HC2 G4 z0a z1a)
  obtain ⟨hbA, x0, x1⟩ := boxF (w := w5) (x := 0) (y := 0) rfl
  have G6 := Lib.hid (G5.out.next hbA)
  have v0 := cellP hbA u0
  have v1 := cellP hbA u1
  clear hbA G5 u0 u1
  generalize hbx : w5.heap.size = by5 at *
  clear hbx
  generalize w5.alloc (.cells #[.int .i64 0, .int .i64 0] 26) = w6 at *
  go_wp2
  go_ret
  exact ⟨rfl, G6.out.1⟩
theorem prefix_row {a a2 : Option Addr} {len len2 cap cap2 : Nat} {x : Int} (w : World) (ht : Sh w) (hb : IsBytes w a len cap) (hl : len ≤ 1048576) (_ : (Lit.int .i64 x).wf = true) (hb2 : IsBytes w a2 len2 cap2) (hl2 : len2 ≤ 1048576) : Calls Tryd.prog 3 #[.slice a len cap, .int .i64 x, .slice a2 len2 cap2] w fun r w' => r = .returned (.bool true) ∧ Below w.heap.size w w' := by
  obtain ⟨l, rfl, h2, h3, h4, h5⟩ := hb
  obtain ⟨l2, rfl, g2, g3, g4, g5⟩ := hb2
  cases a with
  | none =>
    obtain ⟨e1, rfl⟩ := h5 rfl
    rw [e1]
    exact prefix_none w ht
  | some b =>
    exact prefix_some w ht hl h3 h4 h2 hl2 g3 g2 g5
end Go.Proofs.YtefaieglhllioaaDoor
