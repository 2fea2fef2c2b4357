/- the law SyntaxDepths walked. -/
import Derived.Test.YtpgiljibicigeaaGreatDoorLexSs
import Derived.Deep.RegionHeld3
import Derived.BigQuiet
set_option linter.unusedVariables false
set_option linter.unusedSimpArgs false
namespace Go.Proofs.YtpgiljibicigeaaGreatDoor
open Go.RowKit UM QM LX SX

theorem cellW' {w w' : World} {a : Addr} {v : Value} (hb : Below w.heap.size w w') (h : w.cell? a = some v) : w'.cell? a = some v := (hb.cell (lt_of_cell h)).trans h
/-- the operation is met as it is written -/
theorem takeL {P : Program} {md : Region.Mode} {l rest : List Oper} {Q : Exit → Act → World → Prop} {S : World → Prop} {i : Nat} {oi : Oper} {v : Value} {fuel : Nat} {listed : Array Bool} {a : Act} {w : World} (hi : l.drop i = oi :: rest)
    (hs : Region.noSelect l.toArray = true) (hf : Region.free md l.toArray listed i = true) (hr : (Region.ready md l.toArray listed).contains i = true)
    (hQ : ∀ c a w, Q (.panic c) (a.put oi.dst v) w → Q (.panic c) a w) (hy : YieldsIf P l.toArray S oi v a) (hS : S w)
    (h : wpAnyH P md l.toArray Q S fuel (listed.setIfInBounds i true) (a.put oi.dst v) w) : wpAnyH P md l.toArray Q S (fuel + 1) listed a w :=
  wpAnyH_take (by rw [List.getElem?_toArray]; have := congrArg List.head? hi; rw [List.head?_drop] at this; simpa using this) hs hf hr hQ hy hS h
set_option maxRecDepth 100000 in
set_option maxHeartbeats 8000000 in
theorem syntaxDepths_walk {x : An} {u : Value} {s : ByteArray} (w : World) (ht : Sh w ∧ Sg w ∧ TBs w) (hn : AN w x u) (hs : s.size ≤ 140737488351232) : Calls Tryz.prog 3 #[u, .string s] w fun r w' => r = .returned (.bool true) ∧ Below w.heap.size w w' := by
  have HN := Lib.hid hn
  obtain ⟨k, t, ks⟩ := x
  unfold AN at hn
  obtain ⟨ao, cap, rfl, _, _⟩ := hn
  obtain ⟨nb, hnb⟩ : ∃ n, w.heap.size = n := ⟨_, rfl⟩
  obtain ⟨w1, hw1⟩ : ∃ W, w.alloc (.cells #[.int .i64 k, .string t, .slice ao ks.length cap] 24) = W := ⟨_, rfl⟩
  have hb1 : Below w.heap.size w w1 := by rw [← hw1]; exact (Below.refl _ _).alloc (Nat.le_refl _) _
  have k0 : w1.cell? ⟨nb, 0, none⟩ = some (.int .i64 k) := by rw [← hw1]; exact cell_new hnb.symm
  have k1 : w1.cell? ⟨nb, 1, none⟩ = some (.string t) := by rw [← hw1]; exact cell_new hnb.symm
  have k2 : w1.cell? ⟨nb, 2, none⟩ = some (.slice ao ks.length cap) := by rw [← hw1]; exact cell_new hnb.symm
  have hG1 : GoY w w1 := GoY.next ⟨Below.refl _ _, ht⟩ hb1
  have X := Lib.hid (yshown_any w1 hG1.2.1 hG1.2.2.1 hG1.2.2.2)
  have G1 := Lib.hid hG1
  have HGR := Lib.hid (fun w => great15_any s w)
  have HP := Lib.hid (fun W (h : GoY w W) => Parse_all s W hs h.2.1 h.2.2.1 h.2.2.2)
  have hok := fun x j => @parF_ok s x j
  have her := fun a e => @parF_err s a e
  obtain ⟨R, hR⟩ : ∃ R, parF s = R := ⟨_, rfl⟩
  rw [hR] at hok her HP
  have HD1 := Lib.hid (fun W (hb : Below w.heap.size w W) => Depth_any (.mk k t ks) W _ (AN.be hb HN.out))
  have HD2 := Lib.hid (fun W (hb : Below w.heap.size w W) => rDepth_any 200 (by omega) (.mk k t ks) W _ (AN.be hb HN.out))
  generalize dA 200 (.mk k t ks) = D at *
  have HW1 := Lib.hid hw1; have HNB := Lib.hid hnb
  have K := Lib.hid (And.intro k0 (And.intro k1 k2))
  clear ht hs hR hw1 hb1 hG1 hnb k0 k1 k2
  cases hgr : gre s.size with
  | true =>
    rw [hgr] at HGR
    clear hgr hok her
    go_enter Tryz.func3, Tryz.ntmps3
    go_wp2_with fail
    rw [HW1.out, HNB.out]
    refine X.out.mono ?_
    rintro r w2 ⟨rfl, hg⟩
    have G2 := Lib.hid (G1.out.next hg.1)
    clear hg X
    go_wp2_with fail
    refine (HGR.out w2).mono ?_
    rintro r w3 ⟨rfl, rfl⟩
    go_wp2
    go_ret
    exact ⟨rfl, G2.out.1⟩
  | false =>
  rw [hgr] at HGR
  clear hgr
  go_enter Tryz.func3, Tryz.ntmps3
  go_wp2_with fail
  rw [HW1.out, HNB.out]
  refine X.out.mono ?_
  rintro r w2 ⟨rfl, hg⟩
  have G2 := Lib.hid (G1.out.next hg.1)
  have K2 : Hid (w2.cell? ⟨nb, 0, none⟩ = some (.int .i64 k) ∧ w2.cell? ⟨nb, 1, none⟩ = some (.string t) ∧ w2.cell? ⟨nb, 2, none⟩ = some (.slice ao ks.length cap)) := Lib.hid ⟨cellW' hg.1 K.out.1, cellW' hg.1 K.out.2.1, cellW' hg.1 K.out.2.2⟩
  clear hg X K
  go_wp2_with fail
  refine (HGR.out w2).mono ?_
  rintro r w3 ⟨rfl, rfl⟩
  go_wp2_with fail
  refine (HP.out w2 G2.out).mono ?_
  intro e w4 hr
  cases R with
  | err a er =>
    obtain ⟨rfl, hb4⟩ := hr
    obtain ⟨h1, h2, h3⟩ := her a er rfl
    have q0 : ((er : Int) == 0) = false := by rw [beq_eq_false_iff_ne]; omega
    have q1 : ((er : Int) != 0) = true := by rw [bne_iff_ne]; omega
    clear h1 h2 h3 hok her
    have G4 := Lib.hid (G2.out.next hb4)
    have z0 := cellW' hb4 K2.out.1; have z1 := cellW' hb4 K2.out.2.1; have z2 := cellW' hb4 K2.out.2.2
    clear hb4 K2 HP HGR
    go_upto_region 5 with (fail)
    obtain ⟨mb, hmb⟩ : ∃ n, w4.heap.size = n := ⟨_, rfl⟩
    obtain ⟨w5, hw5⟩ : ∃ W, w4.alloc (.cells #[.int .i64 0, .string ⟨#[]⟩, .slice none 0 0] 24) = W := ⟨_, rfl⟩
    have hb5 : Below w4.heap.size w4 w5 := by rw [← hw5]; exact (Below.refl _ _).alloc (Nat.le_refl _) _
    have y0 : w5.cell? ⟨mb, 0, none⟩ = some (.int .i64 0) := by rw [← hw5]; exact cell_new hmb.symm
    have x0 := And.intro (cellW' hb5 z0) (And.intro (cellW' hb5 z1) (And.intro (cellW' hb5 z2) y0))
    have G5 := Lib.hid (G4.out.next hb5).1
    rw [hw5, hmb]
    clear hw5 hmb hb5 z0 z1 z2 y0 G4
    -- REGION ERR
    refine wp_region_held_drew (S := (fun w' => w'.cell? ⟨nb, 0, none⟩ = some (.int .i64 k) ∧ w'.cell? ⟨nb, 1, none⟩ = some (.string t) ∧ w'.cell? ⟨nb, 2, none⟩ = some (.slice ao ks.length cap) ∧ w'.cell? ⟨mb, 0, none⟩ = some (.int .i64 0))) rfl (by go_keep) (fun hS => ?_)
    refine takeL (i := 0) (v := (.bool true)) rfl (by decide +kernel) (by decide +kernel) (by decide +kernel) (fun _ _ _ h => h) (.inl ⟨by kernel_rfl, fun w' hSw => by obtain ⟨q10, q11, q12, q13⟩ := hSw; go_simp⟩) hS ?_
    simp only [Act.put, List.setIfInBounds_toArray, List.set_cons_zero, List.set_cons_succ]
    refine takeL (i := 1) (v := (.bool true)) rfl (by decide +kernel) (by decide +kernel) (by decide +kernel) (fun _ _ _ h => h) (.inl ⟨by kernel_rfl, fun w' hSw => by obtain ⟨q10, q11, q12, q13⟩ := hSw; go_simp⟩) hS ?_
    simp only [Act.put, List.setIfInBounds_toArray, List.set_cons_zero, List.set_cons_succ]
    refine takeL (i := 2) (v := (.agg #[.int .i64 k, .string t, .slice ao ks.length cap])) rfl (by decide +kernel) (by decide +kernel) (by decide +kernel) (fun _ _ _ h => h) (.inl ⟨by kernel_rfl, fun w' hSw => by obtain ⟨q10, q11, q12, q13⟩ := hSw; go_simp⟩) hS ?_
    simp only [Act.put, List.setIfInBounds_toArray, List.set_cons_zero, List.set_cons_succ]
    refine takeL (i := 4) (v := (.agg #[.int .i64 k, .string t, .slice ao ks.length cap])) rfl (by decide +kernel) (by decide +kernel) (by decide +kernel) (fun _ _ _ h => h) (.inl ⟨by kernel_rfl, fun w' hSw => by obtain ⟨q10, q11, q12, q13⟩ := hSw; go_simp⟩) hS ?_
    simp only [Act.put, List.setIfInBounds_toArray, List.set_cons_zero, List.set_cons_succ]
    refine wpAnyH_ready (rs := [3]) (by decide +kernel) (by simp) ?_
    refine AllReadyH.cons (o := _) rfl (fun K hK => ?_) AllReadyH.nil
    rw [if_pos (by kernel_rfl)]
    go_simp
    go_at_call 10
    refine (HD1.out _ G5.out.drew).mono ?_
    rintro e7 w7 ⟨rfl, hb⟩
    have G7 : Hid (Below w.heap.size w w7) := Lib.hid (G5.out.drew.trans (hb.mono G5.out.drew.size))
    refine hK.out _ _ ⟨cellW' hb hS.1, cellW' hb hS.2.1, cellW' hb hS.2.2.1, cellW' hb hS.2.2.2⟩ (fun hS => ?_)
    clear hb
    refine wpAnyH_ready (rs := [5]) (by decide +kernel) (by simp) ?_
    refine AllReadyH.cons (o := _) rfl (fun K hK => ?_) AllReadyH.nil
    rw [if_pos (by kernel_rfl)]
    go_simp
    go_at_call 11
    refine (HD2.out _ G7.out).mono ?_
    rintro e8 w8 ⟨rfl, hb⟩
    have G8 : Hid (Below w.heap.size w w8) := Lib.hid (G7.out.trans (hb.mono G7.out.size))
    refine hK.out _ _ ⟨cellW' hb hS.1, cellW' hb hS.2.1, cellW' hb hS.2.2.1, cellW' hb hS.2.2.2⟩ (fun hS => ?_)
    clear hb
    refine takeL (i := 6) (v := (.bool true)) rfl (by decide +kernel) (by decide +kernel) (by decide +kernel) (fun _ _ _ h => h) (.inl ⟨by kernel_rfl, fun w' hSw => by obtain ⟨q10, q11, q12, q13⟩ := hSw; go_simp⟩) hS ?_
    simp only [Act.put, List.setIfInBounds_toArray, List.set_cons_zero, List.set_cons_succ]
    refine takeL (i := 7) (v := (.bool true)) rfl (by decide +kernel) (by decide +kernel) (by decide +kernel) (fun _ _ _ h => h) (.inl ⟨by kernel_rfl, fun w' hSw => by obtain ⟨q10, q11, q12, q13⟩ := hSw; go_simp⟩) hS ?_
    simp only [Act.put, List.setIfInBounds_toArray, List.set_cons_zero, List.set_cons_succ]
    refine takeL (i := 8) (v := (.bool true)) rfl (by decide +kernel) (by decide +kernel) (by decide +kernel) (fun _ _ _ h => h) (.inl ⟨by kernel_rfl, fun w' hSw => by obtain ⟨q10, q11, q12, q13⟩ := hSw; go_simp⟩) hS ?_
    simp only [Act.put, List.setIfInBounds_toArray, List.set_cons_zero, List.set_cons_succ]
    refine takeL (i := 9) (v := (.int .i64 (er : Int))) rfl (by decide +kernel) (by decide +kernel) (by decide +kernel) (fun _ _ _ h => h) (.inl ⟨by kernel_rfl, fun w' hSw => by obtain ⟨q10, q11, q12, q13⟩ := hSw; go_simp⟩) hS ?_
    simp only [Act.put, List.setIfInBounds_toArray, List.set_cons_zero, List.set_cons_succ]
    refine takeL (i := 10) (v := (.bool true)) rfl (by decide +kernel) (by decide +kernel) (by decide +kernel) (fun _ _ _ h => h) (.inl ⟨by kernel_rfl, fun w' hSw => by obtain ⟨q10, q11, q12, q13⟩ := hSw; go_simp⟩) hS ?_
    simp only [Act.put, List.setIfInBounds_toArray, List.set_cons_zero, List.set_cons_succ]
    refine takeL (i := 11) (v := (.bool true)) rfl (by decide +kernel) (by decide +kernel) (by decide +kernel) (fun _ _ _ h => h) (.inl ⟨by kernel_rfl, fun w' hSw => by obtain ⟨q10, q11, q12, q13⟩ := hSw; go_simp⟩) hS ?_
    simp only [Act.put, List.setIfInBounds_toArray, List.set_cons_zero, List.set_cons_succ]
    refine takeL (i := 12) (v := (.pointer (some ⟨mb, 0, none⟩))) rfl (by decide +kernel) (by decide +kernel) (by decide +kernel) (fun _ _ _ h => h) (.inl ⟨by kernel_rfl, fun w' hSw => by obtain ⟨q10, q11, q12, q13⟩ := hSw; go_simp⟩) hS ?_
    simp only [Act.put, List.setIfInBounds_toArray, List.set_cons_zero, List.set_cons_succ]
    refine takeL (i := 13) (v := (.int .i64 0)) rfl (by decide +kernel) (by decide +kernel) (by decide +kernel) (fun _ _ _ h => h) (.inl ⟨by kernel_rfl, fun w' hSw => by obtain ⟨q10, q11, q12, q13⟩ := hSw; go_simp⟩) hS ?_
    simp only [Act.put, List.setIfInBounds_toArray, List.set_cons_zero, List.set_cons_succ]
    refine takeL (i := 14) (v := (.bool true)) rfl (by decide +kernel) (by decide +kernel) (by decide +kernel) (fun _ _ _ h => h) (.inl ⟨by kernel_rfl, fun w' hSw => by obtain ⟨q10, q11, q12, q13⟩ := hSw; go_simp⟩) hS ?_
    simp only [Act.put, List.setIfInBounds_toArray, List.set_cons_zero, List.set_cons_succ]
    refine takeL (i := 15) (v := (.bool true)) rfl (by decide +kernel) (by decide +kernel) (by decide +kernel) (fun _ _ _ h => h) (.inl ⟨by kernel_rfl, fun w' hSw => by obtain ⟨q10, q11, q12, q13⟩ := hSw; go_simp⟩) hS ?_
    simp only [Act.put, List.setIfInBounds_toArray, List.set_cons_zero, List.set_cons_succ]
    refine takeL (i := 16) (v := (.bool true)) rfl (by decide +kernel) (by decide +kernel) (by decide +kernel) (fun _ _ _ h => h) (.inl ⟨by kernel_rfl, fun w' hSw => by obtain ⟨q10, q11, q12, q13⟩ := hSw; go_simp⟩) hS ?_
    simp only [Act.put, List.setIfInBounds_toArray, List.set_cons_zero, List.set_cons_succ]
    refine takeL (i := 17) (v := (undef)) rfl (by decide +kernel) (by decide +kernel) (by decide +kernel) (fun _ _ _ h => h) (.inr ⟨by kernel_rfl, rfl⟩) hS ?_
    simp only [Act.put, List.setIfInBounds_toArray, List.set_cons_zero, List.set_cons_succ]
    refine takeL (i := 18) (v := (undef)) rfl (by decide +kernel) (by decide +kernel) (by decide +kernel) (fun _ _ _ h => h) (.inr ⟨by kernel_rfl, rfl⟩) hS ?_
    simp only [Act.put, List.setIfInBounds_toArray, List.set_cons_zero, List.set_cons_succ]
    refine takeL (i := 19) (v := (undef)) rfl (by decide +kernel) (by decide +kernel) (by decide +kernel) (fun _ _ _ h => h) (.inr ⟨by kernel_rfl, rfl⟩) hS ?_
    simp only [Act.put, List.setIfInBounds_toArray, List.set_cons_zero, List.set_cons_succ]
    refine takeL (i := 20) (v := (undef)) rfl (by decide +kernel) (by decide +kernel) (by decide +kernel) (fun _ _ _ h => h) (.inr ⟨by kernel_rfl, rfl⟩) hS ?_
    simp only [Act.put, List.setIfInBounds_toArray, List.set_cons_zero, List.set_cons_succ]
    refine takeL (i := 21) (v := (undef)) rfl (by decide +kernel) (by decide +kernel) (by decide +kernel) (fun _ _ _ h => h) (.inr ⟨by kernel_rfl, rfl⟩) hS ?_
    simp only [Act.put, List.setIfInBounds_toArray, List.set_cons_zero, List.set_cons_succ]
    refine takeL (i := 22) (v := (undef)) rfl (by decide +kernel) (by decide +kernel) (by decide +kernel) (fun _ _ _ h => h) (.inr ⟨by kernel_rfl, rfl⟩) hS ?_
    simp only [Act.put, List.setIfInBounds_toArray, List.set_cons_zero, List.set_cons_succ]
    refine takeL (i := 23) (v := (undef)) rfl (by decide +kernel) (by decide +kernel) (by decide +kernel) (fun _ _ _ h => h) (.inr ⟨by kernel_rfl, rfl⟩) hS ?_
    simp only [Act.put, List.setIfInBounds_toArray, List.set_cons_zero, List.set_cons_succ]
    refine takeL (i := 24) (v := (.bool true)) rfl (by decide +kernel) (by decide +kernel) (by decide +kernel) (fun _ _ _ h => h) (.inl ⟨by kernel_rfl, fun w' hSw => by obtain ⟨q10, q11, q12, q13⟩ := hSw; go_simp⟩) hS ?_
    simp only [Act.put, List.setIfInBounds_toArray, List.set_cons_zero, List.set_cons_succ]
    refine takeL (i := 25) (v := (.bool true)) rfl (by decide +kernel) (by decide +kernel) (by decide +kernel) (fun _ _ _ h => h) (.inl ⟨by kernel_rfl, fun w' hSw => by obtain ⟨q10, q11, q12, q13⟩ := hSw; go_simp⟩) hS ?_
    simp only [Act.put, List.setIfInBounds_toArray, List.set_cons_zero, List.set_cons_succ]
    refine takeL (i := 26) (v := (.bool true)) rfl (by decide +kernel) (by decide +kernel) (by decide +kernel) (fun _ _ _ h => h) (.inl ⟨by kernel_rfl, fun w' hSw => by obtain ⟨q10, q11, q12, q13⟩ := hSw; go_simp⟩) hS ?_
    simp only [Act.put, List.setIfInBounds_toArray, List.set_cons_zero, List.set_cons_succ]
    refine wpAnyH_done (by decide +kernel) ?_ _
    -- END ERR
    go_wp2
    go_ret
    exact ⟨rfl, G8.out⟩
  | ok y j =>
    obtain ⟨u', rfl, hnd, hb4⟩ := hr
    obtain ⟨h1, h2, _⟩ := hok y j rfl
    have hz : siz y ≤ 100000000 := by omega
    have hD2 : dA 200 (toA y) ≤ 200 := Nat.le_trans (dA_toA 200 y) h1
    have han := ND.an hz hnd
    obtain ⟨k2, t2, ks2⟩ := y
    unfold ND at hnd
    obtain ⟨a2, c2, rfl, _⟩ := hnd
    clear h1 h2 hz hok her
    have G4 := Lib.hid (G2.out.next hb4)
    have z0 := cellW' hb4 K2.out.1; have z1 := cellW' hb4 K2.out.2.1; have z2 := cellW' hb4 K2.out.2.2
    have HAN := Lib.hid han
    have HD3 := Lib.hid (fun W (hb : Below w4.heap.size w4 W) => Depth_any (toA (.mk k2 t2 ks2)) W _ (AN.be hb HAN.out))
    generalize dA 200 (toA (.mk k2 t2 ks2)) = D2 at *
    have hD2I : (D2 : Int) ≤ 200 := by omega
    clear hb4 K2 HP HGR han HAN hD2
    go_upto_region 5 with (fail)
    obtain ⟨mb, hmb⟩ : ∃ n, w4.heap.size = n := ⟨_, rfl⟩
    obtain ⟨w5, hw5⟩ : ∃ W, w4.alloc (.cells #[.int .i64 (k2 : Int), .string t2, .slice a2 ks2.length c2] 24) = W := ⟨_, rfl⟩
    have hb5 : Below w4.heap.size w4 w5 := by rw [← hw5]; exact (Below.refl _ _).alloc (Nat.le_refl _) _
    have y0 : w5.cell? ⟨mb, 0, none⟩ = some (.int .i64 (k2 : Int)) := by rw [← hw5]; exact cell_new hmb.symm
    have y1 : w5.cell? ⟨mb, 1, none⟩ = some (.string t2) := by rw [← hw5]; exact cell_new hmb.symm
    have y2 : w5.cell? ⟨mb, 2, none⟩ = some (.slice a2 ks2.length c2) := by rw [← hw5]; exact cell_new hmb.symm
    have x0 := cellW' hb5 z0; have x1 := cellW' hb5 z1; have x2 := cellW' hb5 z2
    have G5 := Lib.hid (G4.out.next hb5).1
    have HB5 := Lib.hid hb5
    rw [hw5, hmb]
    clear hw5 hmb hb5 z0 z1 z2 G4
    have G5b : Hid (Below w4.heap.size w4 w5) := HB5
    -- REGION OK
    refine wp_region_held_drew (S := (fun w' => w'.cell? ⟨nb, 0, none⟩ = some (.int .i64 k) ∧ w'.cell? ⟨nb, 1, none⟩ = some (.string t) ∧ w'.cell? ⟨nb, 2, none⟩ = some (.slice ao ks.length cap) ∧ w'.cell? ⟨mb, 0, none⟩ = some (.int .i64 (k2 : Int)) ∧ w'.cell? ⟨mb, 1, none⟩ = some (.string t2) ∧ w'.cell? ⟨mb, 2, none⟩ = some (.slice a2 ks2.length c2))) rfl (by go_keep) (fun hS => ?_)
    refine takeL (i := 0) (v := (.bool true)) rfl (by decide +kernel) (by decide +kernel) (by decide +kernel) (fun _ _ _ h => h) (.inl ⟨by kernel_rfl, fun w' hSw => by obtain ⟨q10, q11, q12, q13, q14, q15⟩ := hSw; go_simp⟩) hS ?_
    simp only [Act.put, List.setIfInBounds_toArray, List.set_cons_zero, List.set_cons_succ]
    refine takeL (i := 1) (v := (.bool true)) rfl (by decide +kernel) (by decide +kernel) (by decide +kernel) (fun _ _ _ h => h) (.inl ⟨by kernel_rfl, fun w' hSw => by obtain ⟨q10, q11, q12, q13, q14, q15⟩ := hSw; go_simp⟩) hS ?_
    simp only [Act.put, List.setIfInBounds_toArray, List.set_cons_zero, List.set_cons_succ]
    refine takeL (i := 2) (v := (.agg #[.int .i64 k, .string t, .slice ao ks.length cap])) rfl (by decide +kernel) (by decide +kernel) (by decide +kernel) (fun _ _ _ h => h) (.inl ⟨by kernel_rfl, fun w' hSw => by obtain ⟨q10, q11, q12, q13, q14, q15⟩ := hSw; go_simp⟩) hS ?_
    simp only [Act.put, List.setIfInBounds_toArray, List.set_cons_zero, List.set_cons_succ]
    refine takeL (i := 4) (v := (.agg #[.int .i64 k, .string t, .slice ao ks.length cap])) rfl (by decide +kernel) (by decide +kernel) (by decide +kernel) (fun _ _ _ h => h) (.inl ⟨by kernel_rfl, fun w' hSw => by obtain ⟨q10, q11, q12, q13, q14, q15⟩ := hSw; go_simp⟩) hS ?_
    simp only [Act.put, List.setIfInBounds_toArray, List.set_cons_zero, List.set_cons_succ]
    refine wpAnyH_ready (rs := [3]) (by decide +kernel) (by simp) ?_
    refine AllReadyH.cons (o := _) rfl (fun K hK => ?_) AllReadyH.nil
    rw [if_pos (by kernel_rfl)]
    go_simp
    go_at_call 10
    refine (HD1.out _ G5.out.drew).mono ?_
    rintro e7 w7 ⟨rfl, hb⟩
    have G7 : Hid (Below w.heap.size w w7) := Lib.hid (G5.out.drew.trans (hb.mono G5.out.drew.size))
    have G7b : Hid (Below w4.heap.size w4 w7) := Lib.hid (G5b.out.drew.trans (hb.mono G5b.out.drew.size))
    refine hK.out _ _ ⟨cellW' hb hS.1, cellW' hb hS.2.1, cellW' hb hS.2.2.1, cellW' hb hS.2.2.2.1, cellW' hb hS.2.2.2.2.1, cellW' hb hS.2.2.2.2.2⟩ (fun hS => ?_)
    clear hb
    refine wpAnyH_ready (rs := [5]) (by decide +kernel) (by simp) ?_
    refine AllReadyH.cons (o := _) rfl (fun K hK => ?_) AllReadyH.nil
    rw [if_pos (by kernel_rfl)]
    go_simp
    go_at_call 11
    refine (HD2.out _ G7.out).mono ?_
    rintro e8 w8 ⟨rfl, hb⟩
    have G8 : Hid (Below w.heap.size w w8) := Lib.hid (G7.out.trans (hb.mono G7.out.size))
    have G8b : Hid (Below w4.heap.size w4 w8) := Lib.hid (G7b.out.trans (hb.mono G7b.out.size))
    refine hK.out _ _ ⟨cellW' hb hS.1, cellW' hb hS.2.1, cellW' hb hS.2.2.1, cellW' hb hS.2.2.2.1, cellW' hb hS.2.2.2.2.1, cellW' hb hS.2.2.2.2.2⟩ (fun hS => ?_)
    clear hb
    refine takeL (i := 6) (v := (.bool true)) rfl (by decide +kernel) (by decide +kernel) (by decide +kernel) (fun _ _ _ h => h) (.inl ⟨by kernel_rfl, fun w' hSw => by obtain ⟨q10, q11, q12, q13, q14, q15⟩ := hSw; go_simp⟩) hS ?_
    simp only [Act.put, List.setIfInBounds_toArray, List.set_cons_zero, List.set_cons_succ]
    refine takeL (i := 7) (v := (.bool true)) rfl (by decide +kernel) (by decide +kernel) (by decide +kernel) (fun _ _ _ h => h) (.inl ⟨by kernel_rfl, fun w' hSw => by obtain ⟨q10, q11, q12, q13, q14, q15⟩ := hSw; go_simp⟩) hS ?_
    simp only [Act.put, List.setIfInBounds_toArray, List.set_cons_zero, List.set_cons_succ]
    refine takeL (i := 8) (v := (.bool true)) rfl (by decide +kernel) (by decide +kernel) (by decide +kernel) (fun _ _ _ h => h) (.inl ⟨by kernel_rfl, fun w' hSw => by obtain ⟨q10, q11, q12, q13, q14, q15⟩ := hSw; go_simp⟩) hS ?_
    simp only [Act.put, List.setIfInBounds_toArray, List.set_cons_zero, List.set_cons_succ]
    refine takeL (i := 9) (v := (.int .i64 0)) rfl (by decide +kernel) (by decide +kernel) (by decide +kernel) (fun _ _ _ h => h) (.inl ⟨by kernel_rfl, fun w' hSw => by obtain ⟨q10, q11, q12, q13, q14, q15⟩ := hSw; go_simp⟩) hS ?_
    simp only [Act.put, List.setIfInBounds_toArray, List.set_cons_zero, List.set_cons_succ]
    refine takeL (i := 10) (v := (.bool false)) rfl (by decide +kernel) (by decide +kernel) (by decide +kernel) (fun _ _ _ h => h) (.inl ⟨by kernel_rfl, fun w' hSw => by obtain ⟨q10, q11, q12, q13, q14, q15⟩ := hSw; go_simp⟩) hS ?_
    simp only [Act.put, List.setIfInBounds_toArray, List.set_cons_zero, List.set_cons_succ]
    refine takeL (i := 11) (v := (.bool false)) rfl (by decide +kernel) (by decide +kernel) (by decide +kernel) (fun _ _ _ h => h) (.inl ⟨by kernel_rfl, fun w' hSw => by obtain ⟨q10, q11, q12, q13, q14, q15⟩ := hSw; go_simp⟩) hS ?_
    simp only [Act.put, List.setIfInBounds_toArray, List.set_cons_zero, List.set_cons_succ]
    refine takeL (i := 12) (v := (undef)) rfl (by decide +kernel) (by decide +kernel) (by decide +kernel) (fun _ _ _ h => h) (.inr ⟨by kernel_rfl, rfl⟩) hS ?_
    simp only [Act.put, List.setIfInBounds_toArray, List.set_cons_zero, List.set_cons_succ]
    refine takeL (i := 13) (v := (undef)) rfl (by decide +kernel) (by decide +kernel) (by decide +kernel) (fun _ _ _ h => h) (.inr ⟨by kernel_rfl, rfl⟩) hS ?_
    simp only [Act.put, List.setIfInBounds_toArray, List.set_cons_zero, List.set_cons_succ]
    refine takeL (i := 14) (v := (undef)) rfl (by decide +kernel) (by decide +kernel) (by decide +kernel) (fun _ _ _ h => h) (.inr ⟨by kernel_rfl, rfl⟩) hS ?_
    simp only [Act.put, List.setIfInBounds_toArray, List.set_cons_zero, List.set_cons_succ]
    refine takeL (i := 15) (v := (.bool false)) rfl (by decide +kernel) (by decide +kernel) (by decide +kernel) (fun _ _ _ h => h) (.inl ⟨by kernel_rfl, fun w' hSw => by obtain ⟨q10, q11, q12, q13, q14, q15⟩ := hSw; go_simp⟩) hS ?_
    simp only [Act.put, List.setIfInBounds_toArray, List.set_cons_zero, List.set_cons_succ]
    refine takeL (i := 16) (v := (.bool false)) rfl (by decide +kernel) (by decide +kernel) (by decide +kernel) (fun _ _ _ h => h) (.inl ⟨by kernel_rfl, fun w' hSw => by obtain ⟨q10, q11, q12, q13, q14, q15⟩ := hSw; go_simp⟩) hS ?_
    simp only [Act.put, List.setIfInBounds_toArray, List.set_cons_zero, List.set_cons_succ]
    refine takeL (i := 17) (v := (.int .i64 0)) rfl (by decide +kernel) (by decide +kernel) (by decide +kernel) (fun _ _ _ h => h) (.inl ⟨by kernel_rfl, fun w' hSw => by obtain ⟨q10, q11, q12, q13, q14, q15⟩ := hSw; go_simp⟩) hS ?_
    simp only [Act.put, List.setIfInBounds_toArray, List.set_cons_zero, List.set_cons_succ]
    refine takeL (i := 18) (v := (.bool true)) rfl (by decide +kernel) (by decide +kernel) (by decide +kernel) (fun _ _ _ h => h) (.inl ⟨by kernel_rfl, fun w' hSw => by obtain ⟨q10, q11, q12, q13, q14, q15⟩ := hSw; go_simp⟩) hS ?_
    simp only [Act.put, List.setIfInBounds_toArray, List.set_cons_zero, List.set_cons_succ]
    refine takeL (i := 19) (v := (.bool true)) rfl (by decide +kernel) (by decide +kernel) (by decide +kernel) (fun _ _ _ h => h) (.inl ⟨by kernel_rfl, fun w' hSw => by obtain ⟨q10, q11, q12, q13, q14, q15⟩ := hSw; go_simp⟩) hS ?_
    simp only [Act.put, List.setIfInBounds_toArray, List.set_cons_zero, List.set_cons_succ]
    refine takeL (i := 20) (v := (.agg #[.int .i64 (k2 : Int), .string t2, .slice a2 ks2.length c2])) rfl (by decide +kernel) (by decide +kernel) (by decide +kernel) (fun _ _ _ h => h) (.inl ⟨by kernel_rfl, fun w' hSw => by obtain ⟨q10, q11, q12, q13, q14, q15⟩ := hSw; go_simp⟩) hS ?_
    simp only [Act.put, List.setIfInBounds_toArray, List.set_cons_zero, List.set_cons_succ]
    refine wpAnyH_ready (rs := [21]) (by decide +kernel) (by simp) ?_
    refine AllReadyH.cons (o := _) rfl (fun K hK => ?_) AllReadyH.nil
    rw [if_pos (by kernel_rfl)]
    go_simp
    go_at_call 10
    refine (HD3.out _ G8b.out).mono ?_
    rintro e9 w9 ⟨rfl, hb⟩
    have G9 : Hid (Below w.heap.size w w9) := Lib.hid (G8.out.trans (hb.mono G8.out.size))
    have G9b : Hid (Below w4.heap.size w4 w9) := Lib.hid (G8b.out.trans (hb.mono G8b.out.size))
    refine hK.out _ _ ⟨cellW' hb hS.1, cellW' hb hS.2.1, cellW' hb hS.2.2.1, cellW' hb hS.2.2.2.1, cellW' hb hS.2.2.2.2.1, cellW' hb hS.2.2.2.2.2⟩ (fun hS => ?_)
    clear hb
    refine takeL (i := 22) (v := (.bool true)) rfl (by decide +kernel) (by decide +kernel) (by decide +kernel) (fun _ _ _ h => h) (.inl ⟨by kernel_rfl, fun w' hSw => by obtain ⟨q10, q11, q12, q13, q14, q15⟩ := hSw; go_simp⟩) hS ?_
    simp only [Act.put, List.setIfInBounds_toArray, List.set_cons_zero, List.set_cons_succ]
    refine takeL (i := 23) (v := (.bool true)) rfl (by decide +kernel) (by decide +kernel) (by decide +kernel) (fun _ _ _ h => h) (.inl ⟨by kernel_rfl, fun w' hSw => by obtain ⟨q10, q11, q12, q13, q14, q15⟩ := hSw; go_simp⟩) hS ?_
    simp only [Act.put, List.setIfInBounds_toArray, List.set_cons_zero, List.set_cons_succ]
    refine takeL (i := 24) (v := (.bool true)) rfl (by decide +kernel) (by decide +kernel) (by decide +kernel) (fun _ _ _ h => h) (.inl ⟨by kernel_rfl, fun w' hSw => by obtain ⟨q10, q11, q12, q13, q14, q15⟩ := hSw; go_simp⟩) hS ?_
    simp only [Act.put, List.setIfInBounds_toArray, List.set_cons_zero, List.set_cons_succ]
    refine takeL (i := 25) (v := (.bool true)) rfl (by decide +kernel) (by decide +kernel) (by decide +kernel) (fun _ _ _ h => h) (.inl ⟨by kernel_rfl, fun w' hSw => by obtain ⟨q10, q11, q12, q13, q14, q15⟩ := hSw; go_simp⟩) hS ?_
    simp only [Act.put, List.setIfInBounds_toArray, List.set_cons_zero, List.set_cons_succ]
    refine takeL (i := 26) (v := (.bool true)) rfl (by decide +kernel) (by decide +kernel) (by decide +kernel) (fun _ _ _ h => h) (.inl ⟨by kernel_rfl, fun w' hSw => by obtain ⟨q10, q11, q12, q13, q14, q15⟩ := hSw; go_simp⟩) hS ?_
    simp only [Act.put, List.setIfInBounds_toArray, List.set_cons_zero, List.set_cons_succ]
    refine wpAnyH_done (by decide +kernel) ?_ _
    -- END OK
    go_wp2
    go_ret
    exact ⟨rfl, G9.out⟩
end Go.Proofs.YtpgiljibicigeaaGreatDoor
