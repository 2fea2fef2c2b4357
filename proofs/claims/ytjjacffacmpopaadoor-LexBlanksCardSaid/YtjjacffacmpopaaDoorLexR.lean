/- lex: the statements' common head; the document's Name and Word. -/
import Derived.Test.YtjjacffacmpopaaDoorLexQ
namespace Go.Proofs.YtjjacffacmpopaaDoor
open Go.RowKit UM QM LX

/-- what stands: below all is as it was, the tables are laid -/
def GoX (w W : World) : Prop := Below w.heap.size w W ∧ Sh W ∧ Sg W
theorem GoX.next {w W W' : World} (h : GoX w W) (hb : Below W.heap.size W W') : GoX w W' := ⟨h.1.trans (hb.mono h.1.size), h.2.1.below hb, h.2.2.below hb⟩
theorem lxCell {W w' : World} (h : Below W.heap.size W w') {p : Addr} {v : Value} (hc : W.cell? p = some v) : w'.cell? p = some v := by rw [h.cell (lt_of_cell hc)]; exact hc
theorem tk1f : tkF (bl ⟨#[46, 97, 124, 34, 120, 92, 40, 49, 41, 121, 34]⟩) = ([(3, [97], 0), (6, [124], 2), (7, [], 3), (8, [120], 4), (9, [], 5), (1, [49], 7), (10, [], 8), (8, [121], 9), (11, [], 10)], 0, 0) := by
  rw [show bl ⟨#[46, 97, 124, 34, 120, 92, 40, 49, 41, 121, 34]⟩ = t1 by rfl]; exact tk1
theorem tk2f : tkF (bl ⟨#[36]⟩) = ([], 0, 2) := by
  rw [show bl ⟨#[36]⟩ = t2 by rfl]; exact tk2
theorem tk3f : tkF (bl ⟨#[34, 97]⟩) = ([], 2, 5) := by
  rw [show bl ⟨#[34, 97]⟩ = t3 by rfl]; exact tk3
theorem tok1 (w : World) (ht : Sh w) (hsg : Sg w) : Calls Tryd.prog 13 #[.string ⟨#[46, 97, 124, 34, 120, 92, 40, 49, 41, 121, 34]⟩] w fun e w' => ∃ b c, e = .returned (.tuple #[.slice (some ⟨b, 0, none⟩) 9 c, .int .i64 0, .int .i64 0]) ∧ (∀ j v, (tkc [(3, [97], 0), (6, [124], 2), (7, [], 3), (8, [120], 4), (9, [], 5), (1, [49], 7), (10, [], 8), (8, [121], 9), (11, [], 10)])[j]? = some v → w'.cell? ⟨b, j, none⟩ = some v) ∧ Below w.heap.size w w' := by
  refine (Tokens_any _ w (by decide) ht hsg).mono ?_
  rintro e w' ⟨ao, c, he, ho, hb⟩
  rw [tk1f] at he ho
  rcases ho.shape with ⟨_, _, h, _⟩ | ⟨b, cur, rfl, _⟩
  · cases h
  · exact ⟨b, c, he, fun j v hv => ho.cellAt hv, hb⟩
theorem tok2 (w : World) (ht : Sh w) (hsg : Sg w) : Calls Tryd.prog 13 #[.string ⟨#[36]⟩] w fun e w' => ∃ ao c, e = .returned (.tuple #[.slice ao 0 c, .int .i64 0, .int .i64 2]) ∧ Below w.heap.size w w' := by
  refine (Tokens_any _ w (by decide) ht hsg).mono ?_
  rintro e w' ⟨ao, c, he, ho, hb⟩
  rw [tk2f] at he
  exact ⟨ao, c, he, hb⟩
theorem tok3 (w : World) (ht : Sh w) (hsg : Sg w) : Calls Tryd.prog 13 #[.string ⟨#[34, 97]⟩] w fun e w' => ∃ ao c, e = .returned (.tuple #[.slice ao 0 c, .int .i64 2, .int .i64 5]) ∧ Below w.heap.size w w' := by
  refine (Tokens_any _ w (by decide) ht hsg).mono ?_
  rintro e w' ⟨ao, c, he, ho, hb⟩
  rw [tk3f] at he
  exact ⟨ao, c, he, hb⟩
set_option maxRecDepth 100000 in
set_option maxHeartbeats 4000000 in
theorem xshown_any (w : World) (ht : Sh w) (hsg : Sg w) : Calls Tryd.prog 7 #[] w fun r w' => r = .returned (.bool true) ∧ GoX w w' := by
  have G0 : Hid (GoX w w) := Lib.hid ⟨Below.refl _ _, ht, hsg⟩
  have X1 := Lib.hid tok1; have X2 := Lib.hid tok2; have X3 := Lib.hid tok3
  clear ht hsg
  go_enter Tryd.func7, Tryd.ntmps7
  go_wp2_with fail
  refine (X1.out w G0.out.2.1 G0.out.2.2).mono ?_
  rintro e w1 ⟨b, c, rfl, hc, hb⟩
  have G1 := Lib.hid (G0.out.next hb)
  have HC := Lib.hid (fun W (h : Below w1.heap.size w1 W) j v hv => lxCell h (hc j v hv))
  clear hb hc X1 G0
  go_wp2_with fail
  refine (X2.out w1 G1.out.2.1 G1.out.2.2).mono ?_
  rintro e w2 ⟨a2, c2, rfl, hb2⟩
  have G2 := Lib.hid (G1.out.next hb2)
  have B2 := Lib.hid hb2
  clear hb2 X2
  go_wp2_with fail
  refine (X3.out w2 G2.out.2.1 G2.out.2.2).mono ?_
  rintro e w3 ⟨a3, c3, rfl, hb3⟩
  have G3 := Lib.hid (G2.out.next hb3)
  have hB : Below w1.heap.size w1 w3 := B2.out.trans (hb3.mono B2.out.size)
  have d0 : w3.cell? ⟨b, 0, none⟩ = some (.int .i64 3) := HC.out w3 hB 0 _ rfl
  have d1 : w3.cell? ⟨b, 1, none⟩ = some (.string ⟨#[97]⟩) := HC.out w3 hB 1 _ rfl
  have d2 : w3.cell? ⟨b, 2, none⟩ = some (.int .i64 0) := HC.out w3 hB 2 _ rfl
  have d9 : w3.cell? ⟨b, 9, none⟩ = some (.int .i64 8) := HC.out w3 hB 9 _ rfl
  have d10 : w3.cell? ⟨b, 10, none⟩ = some (.string ⟨#[120]⟩) := HC.out w3 hB 10 _ rfl
  have d11 : w3.cell? ⟨b, 11, none⟩ = some (.int .i64 4) := HC.out w3 hB 11 _ rfl
  have d15 : w3.cell? ⟨b, 15, none⟩ = some (.int .i64 1) := HC.out w3 hB 15 _ rfl
  have d16 : w3.cell? ⟨b, 16, none⟩ = some (.string ⟨#[49]⟩) := HC.out w3 hB 16 _ rfl
  have d17 : w3.cell? ⟨b, 17, none⟩ = some (.int .i64 7) := HC.out w3 hB 17 _ rfl
  have d24 : w3.cell? ⟨b, 24, none⟩ = some (.int .i64 11) := HC.out w3 hB 24 _ rfl
  have d25 : w3.cell? ⟨b, 25, none⟩ = some (.string ⟨#[]⟩) := HC.out w3 hB 25 _ rfl
  have d26 : w3.cell? ⟨b, 26, none⟩ = some (.int .i64 10) := HC.out w3 hB 26 _ rfl
  clear hb3 X3 HC B2 hB G1 G2
  go_wp2
  go_ret
  exact ⟨rfl, G3.out⟩
end Go.Proofs.YtjjacffacmpopaaDoor
