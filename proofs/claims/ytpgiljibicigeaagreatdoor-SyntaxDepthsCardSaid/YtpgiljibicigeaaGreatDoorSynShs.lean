/- syntax: what the statements' head asks. -/
import Derived.Test.YtpgiljibicigeaaGreatDoorLexRisesMs
import Derived.Deep.Slices
import Derived.Lib.SmallJoins
set_option linter.unusedVariables false
set_option linter.unusedSimpArgs false
namespace Go.Proofs.YtpgiljibicigeaaGreatDoor
open Go.RowKit UM QM LX SX

def GoY (w W : World) : Prop := Below w.heap.size w W ∧ Sh W ∧ Sg W ∧ TBs W
theorem TBs.be {w W : World} (h : TBs w) (hb : Below w.heap.size w W) : TBs W := TB.get (w := W) (g := w.heap.size) ⟨w, Nat.le_refl _, hb.size, h, hb⟩
theorem GoY.next {w W W' : World} (h : GoY w W) (hb : Below W.heap.size W W') : GoY w W' := ⟨h.1.trans (hb.mono h.1.size), h.2.1.below hb, h.2.2.1.below hb, h.2.2.2.be hb⟩
theorem Parse_two15 {s : ByteArray} {k j : Nat} {t : ByteArray} {x y : Nd} (h : parF s = .ok (.mk k t [x, y]) j) {w0 w : World} (hs : s.size ≤ 140737488351232) (hG : GoY w0 w) :
    Calls Tryz.prog 9 #[.string s] w fun e w' => ∃ q cap, e = .returned (.tuple #[.agg #[.int .i64 (k : Int), .string t, .slice (some ⟨q, 0, none⟩) 2 cap], .int .i64 0, .int .i64 0]) ∧ (w'.cell? ⟨q, 0, none⟩ = some (.int .i64 (knd x : Int)) ∧ w'.cell? ⟨q, 1, none⟩ = some (.string (txN x)) ∧ w'.cell? ⟨q, 3, none⟩ = some (.int .i64 (knd y : Int)) ∧ w'.cell? ⟨q, 4, none⟩ = some (.string (txN y))) ∧ Below w.heap.size w w' := by
  refine (Parse_all s w hs hG.2.1 hG.2.2.1 hG.2.2.2).mono ?_
  intro e w' hr
  rw [h] at hr
  obtain ⟨u, rfl, hn, hb⟩ := hr
  unfold ND at hn
  obtain ⟨ao, cap, rfl, hk⟩ := hn
  unfold NDs at hk
  obtain ⟨⟨q, c0, c1, c2, rfl, _, h0, h1, _, hx⟩, hk⟩ := hk
  unfold NDs at hk
  obtain ⟨⟨q', d0, d1, d2, e2, _, g0, g1, _, hy⟩, _⟩ := hk
  injection e2 with e2
  injection e2 with e2
  subst e2
  obtain ⟨kx, tx', xs⟩ := x
  obtain ⟨ky, ty, ys⟩ := y
  unfold ND at hx hy
  obtain ⟨_, _, ex, _⟩ := hx
  obtain ⟨_, _, ey, _⟩ := hy
  simp only [Value.agg.injEq, Array.mk.injEq, List.cons.injEq, and_true] at ex ey
  obtain ⟨rfl, rfl, _⟩ := ex
  obtain ⟨rfl, rfl, _⟩ := ey
  exact ⟨q, cap, rfl, ⟨h0, h1, g0, g1⟩, hb⟩
theorem Parse_er15 {s : ByteArray} {a er : Nat} (h : parF s = .err a er) {w0 w : World} (hs : s.size ≤ 140737488351232) (hG : GoY w0 w) :
    Calls Tryz.prog 9 #[.string s] w fun e w' => e = .returned (.tuple #[ndZ, .int .i64 (a : Int), .int .i64 (er : Int)]) ∧ Below w.heap.size w w' := by
  refine (Parse_all s w hs hG.2.1 hG.2.2.1 hG.2.2.2).mono ?_
  intro e w' hr
  rw [h] at hr
  exact hr
theorem par1 : parF ⟨#[46, 97, 32, 43, 32, 49]⟩ = .ok (.mk 17 ⟨#[43]⟩ [.mk 10 ⟨#[]⟩ [.mk 1 ⟨#[]⟩ [], .mk 4 ⟨#[]⟩ [.mk 5 ⟨#[97]⟩ []]], .mk 3 ⟨#[49]⟩ []]) 3 := by kernel_rfl
theorem par2 : parF ⟨#[49, 44, 50, 124, 46]⟩ = .ok (.mk 15 ⟨#[]⟩ [.mk 16 ⟨#[]⟩ [.mk 3 ⟨#[49]⟩ [], .mk 3 ⟨#[50]⟩ []], .mk 1 ⟨#[]⟩ []]) 5 := by kernel_rfl
theorem par3 : parF ⟨#[46, 97, 32, 97, 115, 32, 36, 120]⟩ = .err 8 5 := by kernel_rfl
theorem par4 : parF ⟨#[49, 32, 43, 42, 32, 50]⟩ = .err 3 2 := by kernel_rfl
set_option maxRecDepth 100000 in
set_option maxHeartbeats 8000000 in
theorem yshown_any (w : World) (ht : Sh w) (hsg : Sg w) (htb : TBs w) : Calls Tryz.prog 7 #[] w fun r w' => r = .returned (.bool true) ∧ GoY w w' := by
  have G0 : Hid (GoY w w) := Lib.hid ⟨Below.refl _ _, ht, hsg, htb⟩
  clear ht hsg htb
  go_enter Tryz.func7, Tryz.ntmps7
  go_wp2_with fail
  refine (Parse_two15 par1 (by decide) G0.out).mono ?_
  rintro e w1 ⟨q1, cap1, rfl, hc, hb⟩
  have G1 := Lib.hid (G0.out.next hb)
  have HC1 := Lib.hid hc
  clear hb hc G0
  go_wp2_with fail
  obtain ⟨b1, hb1⟩ : ∃ n, w1.heap.size = n := ⟨_, rfl⟩
  obtain ⟨w2, hw2⟩ : ∃ W, w1.alloc (.cells #[.int .i64 17, .string ⟨#[43]⟩, .slice (some ⟨q1, 0, none⟩) 2 cap1] 24) = W := ⟨_, rfl⟩
  have hbe2 : Below w1.heap.size w1 w2 := by rw [← hw2]; exact (Below.refl _ _).alloc (Nat.le_refl _) _
  have K1 : Hid (w2.cell? ⟨b1, 0, none⟩ = some (.int .i64 17) ∧ w2.cell? ⟨b1, 1, none⟩ = some (.string ⟨#[43]⟩) ∧ w2.cell? ⟨b1, 2, none⟩ = some (.slice (some ⟨q1, 0, none⟩) 2 cap1) ∧ w2.cell? ⟨q1, 0, none⟩ = some (.int .i64 10)) := Lib.hid ⟨by rw [← hw2]; exact cell_new hb1.symm, by rw [← hw2]; exact cell_new hb1.symm, by rw [← hw2]; exact cell_new hb1.symm, lxCell hbe2 HC1.out.1⟩
  have G2 := Lib.hid (G1.out.next hbe2)
  rw [hw2, hb1]
  clear hw2 hb1 hbe2 HC1 G1
  refine (Parse_two15 par2 (by decide) G2.out).mono ?_
  rintro e w3 ⟨q2, cap2, rfl, hc, hb⟩
  have G3 := Lib.hid (G2.out.next hb)
  have HC2 := Lib.hid hc
  have HB3 := Lib.hid hb
  clear hb hc G2
  go_wp2_with fail
  obtain ⟨b2, hb2⟩ : ∃ n, w3.heap.size = n := ⟨_, rfl⟩
  obtain ⟨w4, hw4⟩ : ∃ W, w3.alloc (.cells #[.int .i64 15, .string ⟨#[]⟩, .slice (some ⟨q2, 0, none⟩) 2 cap2] 24) = W := ⟨_, rfl⟩
  have hbe4 : Below w3.heap.size w3 w4 := by rw [← hw4]; exact (Below.refl _ _).alloc (Nat.le_refl _) _
  have K2 : Hid (w4.cell? ⟨b2, 0, none⟩ = some (.int .i64 15) ∧ w4.cell? ⟨b2, 2, none⟩ = some (.slice (some ⟨q2, 0, none⟩) 2 cap2) ∧ w4.cell? ⟨q2, 0, none⟩ = some (.int .i64 16)) := Lib.hid ⟨by rw [← hw4]; exact cell_new hb2.symm, by rw [← hw4]; exact cell_new hb2.symm, lxCell hbe4 HC2.out.1⟩
  have G4 := Lib.hid (G3.out.next hbe4)
  have HB4 : Hid (Below w2.heap.size w2 w4) := Lib.hid (HB3.out.trans (hbe4.mono HB3.out.size))
  rw [hw4, hb2]
  clear hw4 hb2 hbe4 HC2 G3 HB3
  refine (Parse_er15 par3 (by decide) G4.out).mono ?_
  rintro e w5 ⟨rfl, hb⟩
  have G5 := Lib.hid (G4.out.next hb)
  have HB5 := Lib.hid hb
  clear hb G4
  go_wp2_with fail
  obtain ⟨w6, hw6⟩ : ∃ W, w5.alloc (.cells #[.int .i64 0, .string ⟨#[]⟩, .slice none 0 0] 24) = W := ⟨_, rfl⟩
  have hbe6 : Below w5.heap.size w5 w6 := by rw [← hw6]; exact (Below.refl _ _).alloc (Nat.le_refl _) _
  have G6 := Lib.hid (G5.out.next hbe6)
  have HB6 : Hid (Below w4.heap.size w4 w6) := Lib.hid (HB5.out.trans (hbe6.mono HB5.out.size))
  rw [hw6]
  clear hw6 hbe6 HB5 G5
  refine (Parse_er15 par4 (by decide) G6.out).mono ?_
  rintro e w7 ⟨rfl, hb⟩
  have G7 := Lib.hid (G6.out.next hb)
  have HB7 := Lib.hid hb
  clear hb G6
  go_upto_region 5 with (fail)
  obtain ⟨w8, hw8⟩ : ∃ W, w7.alloc (.cells #[.int .i64 0, .string ⟨#[]⟩, .slice none 0 0] 24) = W := ⟨_, rfl⟩
  have hbe8 : Below w7.heap.size w7 w8 := by rw [← hw8]; exact (Below.refl _ _).alloc (Nat.le_refl _) _
  have G8 := Lib.hid (G7.out.next hbe8)
  have hB8 : Below w4.heap.size w4 w8 := HB6.out.trans ((HB7.out.mono HB6.out.size).trans (hbe8.mono (Nat.le_trans HB6.out.size HB7.out.size)))
  have hA8 : Below w2.heap.size w2 w8 := HB4.out.trans (hB8.mono HB4.out.size)
  have d0 := lxCell hA8 K1.out.1
  have d1 := lxCell hA8 K1.out.2.1
  have d2 := lxCell hA8 K1.out.2.2.1
  have d3 := lxCell hA8 K1.out.2.2.2
  have e0 := lxCell hB8 K2.out.1
  have e1 := lxCell hB8 K2.out.2.1
  have e2 := lxCell hB8 K2.out.2.2
  rw [hw8]
  clear hw8 hbe8 hB8 hA8 HB6 HB7 HB4 G7 K1 K2
  go_wp2
  go_ret
  exact ⟨rfl, G8.out⟩
end Go.Proofs.YtpgiljibicigeaaGreatDoor

/- What every law15 row wants: the tables, the start, the arguments. -/
namespace Go.Proofs.YtpgiljibicigeaaGreatDoor
open Go.ChangeShapes Go.WideShapes Go.ChangeAt Go.RowKit UM LX SX

theorem cells4 : Tryz.prog.cellsOf 97 = 4 := by kernel_rfl
theorem cells92 : Tryz.prog.cellsOf 109 = 92 := by kernel_rfl
theorem four_of {cs : List Value} (h : cs.length = 4) : ∃ a b c d, cs = [a, b, c, d] := by
  match cs, h with
  | [a, b, c, d], _ => exact ⟨a, b, c, d, rfl⟩
theorem two_cells {H : Type} {enc : TypeId × Value → H} {w : World} {base : Nat} {sp : Nat → Bool} {held : Bool} {fuel : Nat} {cs : List Value} {l : List UInt8} {B C D : Int} {p : List MemPlace}
    (h : DataW.trod enc Tryz.prog w base sp held fuel 97 cs = some (.agg [.lit (.string l), .lit (.int .i64 B), .lit (.int .i64 C), .lit (.int .i64 D)], p)) : cs = [.string ⟨l.toArray⟩, .int .i64 B, .int .i64 C, .int .i64 D] := by
  obtain ⟨y0, y1, y2, y3, n, hx, hl, h0, h1, h2, h3⟩ := Go.Joins.trod_struct4 Tryz.underlying97 h
  rw [cells4] at hl
  obtain ⟨c0, c1, c2, c3, rfl⟩ := four_of hl
  simp only [cellsI, cellsS, List.drop_zero, List.drop_succ_cons, List.take_succ_cons, List.take_zero] at h0 h1 h2 h3
  obtain ⟨s, e0, f0, _⟩ := DataW.trod_string Tryz.underlying9 h0
  obtain ⟨n1, e1, f1, _⟩ := DataW.trod_int Tryz.underlying3 h1
  obtain ⟨n2, e2, f2, _⟩ := DataW.trod_int Tryz.underlying3 h2
  obtain ⟨n3, e3, f3, _⟩ := DataW.trod_int Tryz.underlying3 h3
  simp only [Prod.mk.injEq, DataW.agg.injEq, List.cons.injEq, and_true] at hx
  obtain ⟨⟨r0, r1, r2, r3⟩, _⟩ := hx
  rw [f0] at r0
  subst f1 f2 f3
  simp only [DataW.lit.injEq, Lit.int.injEq, Lit.string.injEq, true_and] at r0 r1 r2 r3
  simp only [List.cons.injEq, and_true] at e0 e1 e2 e3
  rw [e0, e1, e2, e3, r0, r1, r2, r3]
theorem sign_cells {H : Type} {enc : TypeId × Value → H} {w : World} {base : Nat} {sp : Nat → Bool} {held : Bool} {fuel : Nat} {cs : List Value} {p : List MemPlace}
    (h : DataW.trod enc Tryz.prog w base sp held fuel 109 cs = some (Rows.laid_lorgnette_syntax_signs, p)) : ∀ (i : Nat) r, sgs[i]? = some r → (cs.drop (i * 4)).take 4 = [.string r.1, .int .i64 (r.2.1 : Int), .int .i64 (r.2.2.1 : Int), .int .i64 (r.2.2.2 : Int)] := by
  cases fuel with
  | zero => simp [DataW.trod] at h
  | succ fuel =>
    simp only [DataW.trod, Tryz.underlying109, cells4, cells92] at h
    split at h
    · obtain ⟨xs, hm, hx⟩ := Option.map_eq_some_iff.1 h
      have hxs := congrArg Prod.fst hx
      have hsp : (Rows.laid_lorgnette_syntax_signs : DataW H) = .agg (sgs.map (fun r => .agg [.lit (.string r.1.data.toList), .lit (.int .i64 (r.2.1 : Int)), .lit (.int .i64 (r.2.2.1 : Int)), .lit (.int .i64 (r.2.2.2 : Int))])) := rfl
      rw [hsp] at hxs
      simp only [DataW.agg.injEq] at hxs
      intro i r hr
      have hi : i < 23 := (List.getElem?_eq_some_iff.1 hr).1
      obtain ⟨b, hb, f⟩ := Lib.mapM_at hm i i (by simp [hi])
      have g := congrArg (·[i]?) hxs
      simp only [List.getElem?_map, hb, hr, Option.map_some, Option.some.injEq] at g
      obtain ⟨b1, b2⟩ := b
      simp only at g
      subst g
      rw [two_cells f]
    · cases h
theorem gSs : Tryz.prog.globalNamed "lorgnette/syntax.signs" = some 1 := by kernel_rfl
theorem gSsType : (Tryz.prog.globals[1]?).map (·.type) = some 109 := by kernel_rfl
theorem ssT_len92 : ssT.length = 92 := by kernel_rfl
theorem ss_of {W : World} (h' : laidMet Tryz.prog [("lorgnette/syntax.signs", Rows.laid_lorgnette_syntax_signs)] W) : Ss W := by
  obtain ⟨ps, ⟨g', t', cs, fuel, p, q, hg', ht', hvar, hd, _, _⟩, _⟩ := h'
  obtain rfl := Option.some.inj (gSs.symm.trans hg')
  obtain rfl := Option.some.inj (gSsType.symm.trans ht')
  have hc := sign_cells hd
  intro j u hj
  have := World.var?_cell gSs hvar j
  rw [this, ← Array.getElem?_toList]
  have hlt : j < 92 := by rw [← ssT_len92]; exact (List.getElem?_eq_some_iff.1 hj).1
  obtain ⟨r, hr⟩ : ∃ r, sgs[j / 4]? = some r := ⟨_, List.getElem?_eq_getElem (show j / 4 < sgs.length by show j / 4 < 23; omega)⟩
  have h4 := hc _ _ hr
  obtain ⟨t0, t1, t2, t3⟩ := ssT_at hr
  have hat : ∀ k, k < 4 → cs.toList[j / 4 * 4 + k]? = [Value.string r.1, .int .i64 (r.2.1 : Int), .int .i64 (r.2.2.1 : Int), .int .i64 (r.2.2.2 : Int)][k]? := fun k hk => by
    rw [← h4, List.getElem?_take, if_pos hk, List.getElem?_drop]
  have hk : j % 4 = 0 ∨ j % 4 = 1 ∨ j % 4 = 2 ∨ j % 4 = 3 := by omega
  rcases hk with e | e | e | e
  · have ej : j = j / 4 * 4 + 0 := by omega
    rw [ej, hat 0 (by decide)]
    rw [Nat.add_zero] at ej
    rw [ej, t0] at hj
    exact hj
  · have ej : j = j / 4 * 4 + 1 := by omega
    rw [ej, t1] at hj
    rw [ej, hat 1 (by decide)]
    exact hj
  · have ej : j = j / 4 * 4 + 2 := by omega
    rw [ej, t2] at hj
    rw [ej, hat 2 (by decide)]
    exact hj
  · have ej : j = j / 4 * 4 + 3 := by omega
    rw [ej, t3] at hj
    rw [ej, hat 3 (by decide)]
    exact hj
theorem gTab15 : Tryz.prog.globalNamed "internal/strconv.uint64pow10" = some 5 := by kernel_rfl
theorem gTabType15 : (Tryz.prog.globals[5]?).map (·.type) = some 158 := by kernel_rfl
/-- the tables that the rows list -/
def tabs7 : List (String × DataW Unit) := [("lorgnette/utf.shapes", Rows.laid_lorgnette_utf_shapes), ("math/bits.deBruijn32tab", Rows.laid_math_bits_deBruijn32tab), ("math/bits.deBruijn64tab", Rows.laid_math_bits_deBruijn64tab), ("internal/strconv.uint64pow10", Rows.laid_internal_strconv_uint64pow10), ("lorgnette/lex.signs", Rows.laid_lorgnette_lex_signs), ("lorgnette/lex.words", Rows.laid_lorgnette_lex_words), ("lorgnette/syntax.signs", Rows.laid_lorgnette_syntax_signs)]
theorem tab_of {W : World} (h : laidMetH Tryz.prog tabs7 W) : Tab W := by
  have h' : laidMet Tryz.prog (("internal/strconv.uint64pow10", Lib.tabData .u64 Lib.pow10Tab) :: []) W := one_of h "internal/strconv.uint64pow10" (d := Rows.laid_internal_strconv_uint64pow10) (by kernel_rfl)
  exact Lib.tabIs_of_head gTab15 gTabType15 Tryz.underlying158 Tryz.underlying149 (by kernel_rfl) (by kernel_rfl) h'
theorem table7 {W : World} (h : laidMetH Tryz.prog tabs7 W) : Sh W ∧ Sg W ∧ TBs W :=
  ⟨sh_of (one_of h "lorgnette/utf.shapes" (d := Rows.laid_lorgnette_utf_shapes) (by kernel_rfl)), sg_of (one_of h "lorgnette/lex.signs" (d := Rows.laid_lorgnette_lex_signs) (by kernel_rfl)), tab_of h, wd_of (one_of h "lorgnette/lex.words" (d := Rows.laid_lorgnette_lex_words) (by kernel_rfl)), ss_of (one_of h "lorgnette/syntax.signs" (d := Rows.laid_lorgnette_syntax_signs) (by kernel_rfl))⟩
/-- a world for the witness -/
noncomputable def laidWorld15 (os : Os) : World :=
  { World.holding Tryz.prog os ⟨#[], #[], []⟩ with heap := setB (setB (setB (setB (setB (setB (setB (World.holding Tryz.prog os ⟨#[], #[], []⟩).heap 0 (flatD 4 Rows.laid_lorgnette_utf_shapes).toArray) 6 (flatD 4 Rows.laid_math_bits_deBruijn32tab).toArray) 7 (flatD 4 Rows.laid_math_bits_deBruijn64tab).toArray) 5 (flatD 4 Rows.laid_internal_strconv_uint64pow10).toArray) 2 (flatD 4 Rows.laid_lorgnette_lex_signs).toArray) 4 (flatD 4 Rows.laid_lorgnette_lex_words).toArray) 1 (flatD 4 Rows.laid_lorgnette_syntax_signs).toArray }
end Go.Proofs.YtpgiljibicigeaaGreatDoor

/- syntax: nodes that came in, as trees; how deep they are, as a function. -/
namespace Go.Proofs.YtpgiljibicigeaaGreatDoor
open Go.ChangeShapes Go.WideShapes Go.ChangeAt Go.RowKit SX

/-- a tree that came in: its kind may be any number -/
inductive An where | mk (kind : Int) (text : ByteArray) (kids : List An)
instance : Inhabited An := ⟨.mk 0 ⟨#[]⟩ []⟩
mutual
/-- the value u is the node that stands for a tree -/
def AN (w : World) : An → Value → Prop
  | .mk k s ks, u => ∃ ao cap, u = .agg #[.int .i64 k, .string s, .slice ao ks.length cap] ∧ ks.length ≤ maxLen ∧ ANs w ks ao 0
def ANs (w : World) : List An → Option Addr → Nat → Prop
  | [], _, _ => True
  | x :: ks, ao, j => (∃ q o c0 c1 c2, ao = some ⟨q, o, none⟩ ∧ w.cell? ⟨q, o + j * 3, none⟩ = some c0 ∧ w.cell? ⟨q, o + j * 3 + 1, none⟩ = some c1 ∧ w.cell? ⟨q, o + j * 3 + 2, none⟩ = some c2 ∧ AN w x (.agg #[c0, c1, c2])) ∧ ANs w ks ao (j + 1)
end
mutual
theorem AN.to {w w' : World} (h : ∀ k, k < w.heap.size → w'.heap[k]? = w.heap[k]?) : ∀ {x : An} {u : Value}, AN w x u → AN w' x u
  | .mk k s ks, u, hp => by
    unfold AN at hp ⊢
    obtain ⟨ao, cap, e, hl, hs⟩ := hp
    exact ⟨ao, cap, e, hl, ANs.to h hs⟩
theorem ANs.to {w w' : World} (h : ∀ k, k < w.heap.size → w'.heap[k]? = w.heap[k]?) : ∀ {ks : List An} {ao : Option Addr} {j : Nat}, ANs w ks ao j → ANs w' ks ao j
  | [], _, _, _ => by unfold ANs; trivial
  | x :: ks, ao, j, hp => by
    unfold ANs at hp ⊢
    obtain ⟨⟨q, o, c0, c1, c2, e, h0, h1, h2, hx⟩, hr⟩ := hp
    have hc : ∀ j, w'.cell? ⟨q, j, none⟩ = w.cell? ⟨q, j, none⟩ := fun j => World.cell?_of_block (w := w) (h q (lt_of_cell h0))
    exact ⟨⟨q, o, c0, c1, c2, e, (hc _).trans h0, (hc _).trans h1, (hc _).trans h2, AN.to h hx⟩, ANs.to h hr⟩
end
theorem AN.be {w w' : World} (hb : Below w.heap.size w w') {x : An} {u : Value} (h : AN w x u) : AN w' x u := AN.to (fun k hk => hb.block k hk) h
theorem ans_mk {w : World} {q o : Nat} : ∀ (ks : List An) (j : Nat), (∀ (i : Nat) (x : An), ks[i]? = some x → ∃ c0 c1 c2, w.cell? ⟨q, o + (j + i) * 3, none⟩ = some c0 ∧ w.cell? ⟨q, o + (j + i) * 3 + 1, none⟩ = some c1 ∧ w.cell? ⟨q, o + (j + i) * 3 + 2, none⟩ = some c2 ∧ AN w x (.agg #[c0, c1, c2])) → ANs w ks (some ⟨q, o, none⟩) j
  | [], _, _ => by unfold ANs; trivial
  | x :: ks, j, h => by
    unfold ANs
    obtain ⟨c0, c1, c2, h0, h1, h2, hx⟩ := h 0 x rfl
    refine ⟨⟨q, o, c0, c1, c2, rfl, h0, h1, h2, hx⟩, ans_mk ks (j + 1) fun i y hy => ?_⟩
    have := h (i + 1) y (by simpa using hy)
    rwa [show j + (i + 1) = j + 1 + i by omega] at this
theorem ANs.get {w : World} {ao : Option Addr} : ∀ {ks : List An} {j i : Nat} {x : An}, ANs w ks ao j → ks[i]? = some x → ∃ q o c0 c1 c2, ao = some ⟨q, o, none⟩ ∧ w.cell? ⟨q, o + (j + i) * 3, none⟩ = some c0 ∧ w.cell? ⟨q, o + (j + i) * 3 + 1, none⟩ = some c1 ∧ w.cell? ⟨q, o + (j + i) * 3 + 2, none⟩ = some c2 ∧ AN w x (.agg #[c0, c1, c2])
  | [], _, _, _, _, h => by simp at h
  | y :: ks, j, 0, x, hp, h => by
    unfold ANs at hp
    obtain rfl : y = x := by simpa using h
    exact hp.1
  | y :: ks, j, i + 1, x, hp, h => by
    unfold ANs at hp
    have := ANs.get hp.2 (i := i) (x := x) (by simpa using h)
    rwa [show j + 1 + i = j + (i + 1) by omega] at this
/-! A tree that the parser told is such a tree. -/
mutual
def toA : Nd → An
  | .mk k s ks => .mk (k : Int) s (toAs ks)
def toAs : List Nd → List An
  | [] => []
  | x :: ks => toA x :: toAs ks
end
theorem toAs_len : ∀ ks : List Nd, (toAs ks).length = ks.length
  | [] => by simp [toAs]
  | x :: ks => by simp [toAs, toAs_len ks]
/-! How deep a tree is, m levels and one at most. -/
def dA : Nat → An → Nat
  | 0, _ => 1
  | m + 1, .mk _ _ ks => ks.foldl (fun d x => max d (dA m x)) 0 + 1
def dAs (m : Nat) (ks : List An) (d : Nat) : Nat := ks.foldl (fun d x => max d (dA m x)) d
theorem dA_succ (m : Nat) (k : Int) (s : ByteArray) (ks : List An) : dA (m + 1) (.mk k s ks) = dAs m ks 0 + 1 := rfl
theorem dAs_cons (m : Nat) (x : An) (ks : List An) (d : Nat) : dAs m (x :: ks) d = dAs m ks (max d (dA m x)) := rfl
theorem dAs_ge (m : Nat) : ∀ (ks : List An) (d : Nat), d ≤ dAs m ks d
  | [], d => Nat.le_refl _
  | x :: ks, d => by rw [dAs_cons]; exact Nat.le_trans (Nat.le_max_left _ _) (dAs_ge m ks _)
theorem dAs_le {m b : Nat} : ∀ {ks : List An} {d : Nat}, d ≤ b → (∀ x ∈ ks, dA m x ≤ b) → dAs m ks d ≤ b
  | [], d, h, _ => h
  | x :: ks, d, h, hx => by
    rw [dAs_cons]
    exact dAs_le (Nat.max_le.2 ⟨h, hx x (by simp)⟩) fun y hy => hx y (by simp [hy])
theorem dA_le : ∀ (m : Nat) (x : An), dA m x ≤ m + 1
  | 0, x => by cases x; exact Nat.le_refl _
  | m + 1, .mk k s ks => by
    rw [dA_succ]
    have := dAs_le (d := 0) (b := m + 1) (ks := ks) (Nat.zero_le _) fun x _ => dA_le m x
    omega
/-- nothing is deeper than may be asked -/
theorem dAs_full {m : Nat} (ks : List An) : dAs m ks (m + 1) = m + 1 :=
  Nat.le_antisymm (dAs_le (Nat.le_refl _) fun x _ => dA_le m x) (dAs_ge m ks _)
mutual
theorem dA_toA : ∀ (m : Nat) (x : Nd), dA m (toA x) ≤ dpt x
  | 0, .mk k s ks => by simp only [dA, dpt]; omega
  | m + 1, .mk k s ks => by
    simp only [toA, dpt]
    rw [dA_succ]
    have := dAs_toA m ks 0
    omega
theorem dAs_toA : ∀ (m : Nat) (ks : List Nd) (d : Nat), dAs m (toAs ks) d ≤ max d (dps ks)
  | m, [], d => by simp only [toAs, dps]; exact Nat.le_max_left _ _
  | m, x :: ks, d => by
    simp only [toAs, dps, dAs_cons]
    have h1 := dA_toA m x
    have h2 := dAs_toA m ks (max d (dA m (toA x)))
    omega
end
/-! What came in is opened. -/
theorem cellsND : Tryz.prog.cellsOf 24 = 3 := by kernel_rfl
theorem cellsSN : Tryz.prog.cellsOf 22 = 1 := by kernel_rfl
theorem spotN {w : World} {a : Addr} {v : Value} (h : w.cell? (a.add 0) = some v) : ∃ b off, a = ⟨b, off, none⟩ := by
  obtain ⟨b, off, s⟩ := a
  cases s with
  | none => exact ⟨b, off, rfl⟩
  | some s =>
    exfalso
    unfold Addr.add World.cell? at h
    split at h <;> simp_all
theorem threeA_of {α : Type} {cs : List α} (h : cs.length = 3) : ∃ a b c, cs = [a, b, c] := by
  match cs, h with
  | [a, b, c], _ => exact ⟨a, b, c, rfl⟩
theorem open_node {H : Type} {enc : TypeId × Value → H} {w : World} {base : Nat} {held : Bool} : ∀ (m fuel : Nat), fuel ≤ m → ∀ {cs : List Value} {x : DataW H × List MemPlace},
    DataW.trod enc Tryz.prog w base (fun _ => true) held fuel 24 cs = some x → ∃ c0 c1 c2 T, cs = [c0, c1, c2] ∧ AN w T (.agg #[c0, c1, c2])
  | 0, fuel, hfu, cs, x, h => by
    obtain rfl : fuel = 0 := by omega
    simp [DataW.trod] at h
  | m + 1, fuel, hfu, cs, x, h => by
    obtain ⟨xs, n, rfl, _, hl, hlen, hf⟩ := DataW.trod_struct Tryz.underlying24 h
    rw [cellsND] at hl
    obtain ⟨c0, c1, c2, rfl⟩ := threeA_of hl
    obtain ⟨y0, y1, y2, rfl⟩ := threeA_of (α := DataW H × List MemPlace) (show xs.length = 3 from hlen)
    clear hl hlen
    · -- one
      have h0 : DataW.trod enc Tryz.prog w base (fun _ => true) held n 3 [c0] = some y0 := by have := hf 0 _ rfl; simpa [cellsI] using this
      have h1 : DataW.trod enc Tryz.prog w base (fun _ => true) held n 9 [c1] = some y1 := by have := hf 1 _ rfl; simpa [cellsS] using this
      have h2 : DataW.trod enc Tryz.prog w base (fun _ => true) held n 22 [c2] = some y2 := by have := hf 2 _ rfl; simpa [cellsSN] using this
      obtain ⟨k, e0, _, _⟩ := DataW.trod_int Tryz.underlying3 h0
      obtain ⟨s, e1, _, _⟩ := DataW.trod_string Tryz.underlying9 h1
      simp only [List.cons.injEq, and_true] at e0 e1
      subst e0 e1
      rcases DataW.trod_slice Tryz.underlying22 h2 with ⟨e2, _⟩ | ⟨a, len, cap, elems, rest, n2, hn, e2, _, _, hlc, hcm, hel, hat, _, _⟩
      · simp only [List.cons.injEq, and_true] at e2
        subst e2
        refine ⟨_, _, _, .mk k s [], rfl, ?_⟩
        unfold AN
        exact ⟨none, 0, rfl, Nat.zero_le _, by unfold ANs; trivial⟩
      · simp only [List.cons.injEq, and_true] at e2
        subst e2
        have each : ∀ i, i < len → ∃ T : An, ∃ c0 c1 c2, w.cell? (a.add (i * 3)) = some c0 ∧ w.cell? (a.add (i * 3 + 1)) = some c1 ∧ w.cell? (a.add (i * 3 + 2)) = some c2 ∧ AN w T (.agg #[c0, c1, c2]) := fun i hi => by
          have g := hat i hi
          rw [List.getElem?_eq_getElem (by omega), cellsND] at g
          obtain ⟨cs', hc, ht⟩ := Option.bind_eq_some_iff.1 g
          obtain ⟨d0, d1, d2, T, rfl, hT⟩ := open_node m n2 (by omega) ht
          obtain ⟨_, _, hk⟩ := World.cells?_some hc
          have k0 := hk 0 (by omega)
          have k1 := hk 1 (by omega)
          have k2 := hk 2 (by omega)
          rw [Go.Deep.add_add] at k0 k1 k2
          exact ⟨T, d0, d1, d2, k0, k1, k2, hT⟩
        obtain ⟨f, hfT⟩ := Go.Deep.choose_lt each
        have hlen2 : ((List.range len).map f).length = len := by simp
        refine ⟨_, _, _, .mk k s ((List.range len).map f), rfl, ?_⟩
        unfold AN
        refine ⟨some a, cap, by rw [hlen2], by omega, ?_⟩
        by_cases h0l : len = 0
        · subst h0l; simp only [List.range_zero, List.map_nil]; unfold ANs; trivial
        · obtain ⟨_, _, _, g0, _⟩ := hfT 0 (by omega)
          obtain ⟨b, off, rfl⟩ := spotN (by simpa using g0)
          refine ans_mk _ 0 fun i x hx => ?_
          have hi : i < len := by have := (List.getElem?_eq_some_iff.1 hx).1; rwa [hlen2] at this
          have hy : f i = x := by simpa [hi] using hx
          subst hy
          obtain ⟨d0, d1, d2, k0, k1, k2, hT⟩ := hfT i hi
          have e : ∀ n, (⟨b, off, none⟩ : Addr).add n = ⟨b, off + n, none⟩ := fun n => by unfold Addr.add; split <;> simp_all
          rw [e] at k0 k1 k2
          rw [Nat.zero_add]
          exact ⟨d0, d1, d2, k0, k1, k2, hT⟩
set_option maxRecDepth 100000 in
theorem open_nodeT {H : Type} {enc : TypeId × Value → H} {W : World} {base : Nat} {v : Value} {d : DataW H} {p : List MemPlace} (hv : Value.okWide Tryz.prog W .any base 24 v)
    (h : DataW.Trod enc Tryz.prog W 0 (fun _ => true) true 24 v d p) : ∃ T, AN W T v := by
  obtain ⟨cs, rfl, hsz⟩ := okWide_struct Tryz.underlying24 hv
  obtain ⟨fuel, hf⟩ := h
  obtain ⟨c0, c1, c2, T, hcs, hT⟩ := open_node fuel fuel (Nat.le_refl _) hf
  have e : cs.toList = [c0, c1, c2] := by simpa [Value.cells] using hcs
  obtain rfl : cs = #[c0, c1, c2] := by cases cs; simpa using e
  exact ⟨T, hT⟩
mutual
theorem ND.an {w : World} {A : Nat → Prop} : ∀ {x : Nd} {u : Value}, siz x ≤ 100000000 → ND w A x u → AN w (toA x) u
  | .mk k s ks, u, h, hn => by
    unfold ND at hn
    obtain ⟨ao, cap, rfl, hs⟩ := hn
    have hl := len_szs ks
    simp only [siz] at h
    simp only [toA]
    unfold AN
    exact ⟨ao, cap, by rw [toAs_len], by rw [toAs_len]; unfold maxLen; omega, NDs.an (by omega) hs⟩
theorem NDs.an {w : World} {A : Nat → Prop} : ∀ {ks : List Nd} {ao : Option Addr} {j : Nat}, szs ks ≤ 100000000 → NDs w A ks ao j → ANs w (toAs ks) ao j
  | [], _, _, _, _ => by simp only [toAs]; unfold ANs; trivial
  | x :: ks, ao, j, h, hn => by
    unfold NDs at hn
    obtain ⟨⟨q, c0, c1, c2, e, _, h0, h1, h2, hx⟩, hr⟩ := hn
    simp only [szs] at h
    simp only [toAs]
    unfold ANs
    exact ⟨⟨q, 0, c0, c1, c2, e, by rw [Nat.zero_add]; exact h0, by rw [Nat.zero_add]; exact h1, by rw [Nat.zero_add]; exact h2, ND.an (by omega) hx⟩, NDs.an (by omega) hr⟩
end
end Go.Proofs.YtpgiljibicigeaaGreatDoor
