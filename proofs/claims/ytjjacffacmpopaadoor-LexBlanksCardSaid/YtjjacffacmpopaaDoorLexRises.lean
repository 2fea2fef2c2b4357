/- Walk of the law LexRises. -/
import Derived.Test.YtjjacffacmpopaaDoorLexRisesM
namespace Go.Proofs.YtjjacffacmpopaaDoor
open Go.RowKit UM QM LX

def Tabs2 (w : World) : Prop := Sh w ∧ Sg w
/-- what stands in a round: the stack, and all below it -/
def RisW (w1 wr : World) (ao : Option Addr) (st : List Nat) (cp : Nat) : Prop := OwnV wr w1.heap.size 3 1 ao st.length cp (cs .i64 st.reverse) ∧ Below w1.heap.size w1 wr
theorem RisW.dN {w1 wr : World} {ao : Option Addr} {st : List Nat} {cp : Nat} (h : RisW w1 wr ao st cp) (n : Nat) : RisW w1 (wr.drewN n) ao st cp := ⟨OwnV.dN h.1 n, bdN h.2 n⟩
def RisP (L : List Tk) (n i : Nat) (st : List Nat) : Prop := i ≤ L.length ∧ st.length ≤ i ∧ ∃ lo, ckT n lo st (L.drop i) = true ∧ ∀ j t, i = j + 1 → L[j]? = some t → lo = t.2.2 + 1
theorem Tokens_is {s : ByteArray} {L : List Tk} {x y : Nat} (hq : tkF (bl s) = (L, x, y)) (w : World) (hs : s.size ≤ 140737488351232) (ht : Sh w) (hsg : Sg w) :
    Calls Tryd.prog 13 #[.string s] w fun e w' => ∃ ao c, e = .returned (.tuple #[.slice ao L.length c, .int .i64 (x : Int), .int .i64 (y : Int)]) ∧ OwnV w' w.heap.size 30 3 ao L.length c (tkc L) ∧ Below w.heap.size w w' := by
  refine (Tokens_any s w hs ht hsg).mono ?_
  rintro e w' ⟨ao, c, h⟩
  rw [hq] at h
  exact ⟨ao, c, h⟩
set_option maxRecDepth 100000 in
set_option maxHeartbeats 8000000 in
theorem lexRises_walk {s : ByteArray} (w : World) (ht : Tabs2 w) (hs : s.size ≤ 140737488351232) : Calls Tryd.prog 4 #[.string s] w fun r w' => r = .returned (.bool true) ∧ Below w.heap.size w w' := by
  have X := Lib.hid (xshown_any w ht.1 ht.2)
  have HGR := Lib.hid (fun w => great14_any s w)
  obtain ⟨L, at0, er, hq⟩ : ∃ L at0 er, tkF (bl s) = (L, at0, er) := ⟨_, _, _, rfl⟩
  have HT := Lib.hid (fun W (h : GoX w W) => Tokens_is hq W hs h.2.1 h.2.2)
  have hC := tkF_ck (bl s)
  rw [hq, bl_len] at hC
  simp only at hC
  have HC := Lib.hid hC
  clear ht hC hq
  cases hgr : gre s.size with
  | true =>
    rw [hgr] at HGR
    clear hgr
    go_enter Tryd.func4, Tryd.ntmps4
    go_wp2_with fail
    refine X.out.mono ?_
    rintro r w1 ⟨rfl, hg⟩
    have G1 := Lib.hid hg
    clear hg X
    go_wp2_with fail
    refine (HGR.out w1).mono ?_
    rintro r w2 ⟨rfl, rfl⟩
    go_wp2
    go_ret
    exact ⟨rfl, G1.out.1⟩
  | false =>
  rw [hgr] at HGR
  clear hgr
  by_cases he : er = 0
  · subst he
    obtain ⟨hck, hsz⟩ := HC.out.1 rfl
    have hn := ck_len hck
    obtain ⟨nL, hnL⟩ : ∃ n, n = L.length := ⟨_, rfl⟩
    have hnb : nL ≤ s.size := by
      rcases hn with h | h
      · rw [hnL, h]; simp
      · omega
    have HP0 : Hid (RisP L s.size 0 []) := Lib.hid ⟨Nat.zero_le _, Nat.le_refl _, 0, hck, fun j t h => by omega⟩
    clear hck HC hn
    go_enter Tryd.func4, Tryd.ntmps4
    go_wp2_with fail
    refine X.out.mono ?_
    rintro r w1 ⟨rfl, hg⟩
    have G1 := Lib.hid hg
    clear hg X
    go_wp2_with fail
    refine (HGR.out w1).mono ?_
    rintro r w2 ⟨rfl, rfl⟩
    go_wp2_with fail
    refine (HT.out w1 G1.out).mono ?_
    rintro r w2 ⟨la, lc, rfl, hol, hb⟩
    rw [← hnL] at hol
    rw [← hnL]
    have HNL := Lib.hid hnL
    clear hnL
    have HOL := Lib.hid hol
    have G2 := Lib.hid (G1.out.next hb)
    clear hol hb G1 HT HGR
    go_wp2_with fail
    go_loopg [7, 8] nL (fun g s7 s8 wr => ∃ (i : Nat) (st : List Nat) (ao : Option Addr) (cp : Nat), i + g = nL ∧ s8 = .int .i64 (i : Int) ∧ s7 = .slice ao st.length cp ∧ Hid (RisP L s.size i st) ∧ Hid (RisW w2 wr ao st cp))
    case atStart => exact ⟨0, [], none, 0, by omega, rfl, rfl, HP0, Lib.hid ⟨OwnV.nil _ _ _ _, Below.refl _ _⟩⟩
    case round =>
      obtain ⟨i, st, ao, cp, hi, rfl, rfl, HP, HW⟩ := hrel
      by_cases hlt : i < nL
      · --ROUND
        obtain ⟨⟨k, x, a⟩, htk⟩ : ∃ t, L[i]? = some t := ⟨_, List.getElem?_eq_getElem (show i < L.length by have := HNL.out; omega)⟩
        obtain ⟨_, hsi, lo, hck, hlo⟩ := HP.out
        rw [drop_get htk] at hck
        obtain ⟨⟨h1, h2, h3, h4⟩, hcase⟩ := ck_round hck
        obtain ⟨b, rfl⟩ : ∃ b, la = some ⟨b, 0, none⟩ := by
          rcases HOL.out.shape with ⟨_, _, h0, _⟩ | ⟨b, cur, h0, _⟩
          · omega
          · exact ⟨b, h0⟩
        obtain ⟨q0, q1, q2⟩ := tkc_at htk
        have hcell : ∀ j v, (tkc L)[j]? = some v → wr.cell? ⟨b, j, none⟩ = some v := fun j v hv => by
          have := HOL.out.cellAt hv
          rw [HW.out.2.cell (lt_of_cell this)]; exact this
        have c0 := hcell _ _ q0; have c1 := hcell _ _ q1; have c2 := hcell _ _ q2
        simp only at c0 c1 c2
        have hnext : ∀ st', st'.length ≤ i + 1 → ckT s.size (a + 1) st' (L.drop (i + 1)) = true → RisP L s.size (i + 1) st' := fun st' hl hc => ⟨by have := HNL.out; omega, hl, a + 1, hc, fun j u hj hu => by
          have : j = i := by omega
          subst this
          rw [htk] at hu; cases hu; rfl⟩
        have HN := Lib.hid hnext
        have HI := Lib.hid hi
        have hib : (i : Int) < (nL : Int) := by omega
        have f2 : ¬ (s.size : Int) ≤ (a : Int) := by omega
        have f3 : ¬ (a : Int) < 0 := by omega
        have f4 : ¬ (k : Int) < 1 := by omega
        have f5 : ¬ (11 : Int) < (k : Int) := by omega
        have d2 : decide (s.size ≤ a) = false := decide_eq_false (by omega)
        have d3 : decide ((a : Int) < 0) = false := decide_eq_false f3
        have d4 : decide (k < 1) = false := decide_eq_false (by omega)
        have d5 : decide (11 < k) = false := decide_eq_false (by omega)
        have d6 : decide (k = 0) = false := decide_eq_false (by omega)
        have d7 : ¬ k = 0 := by omega
        have d8 : decide ((s.size : Int) ≤ (a : Int)) = false := decide_eq_false f2
        have d9 : decide ((k : Int) < 1) = false := decide_eq_false f4
        have d10 : decide ((11 : Int) < (k : Int)) = false := decide_eq_false f5
        have HCs := Lib.hid hcase
        have HSI := Lib.hid hsi
        have HLT := Lib.hid hlt
        have HSB := Lib.hid (show i ≤ 100000 by omega)
        obtain ⟨K, hK⟩ : ∃ K, st.length = K := ⟨_, rfl⟩
        rw [hK]
        have HK := Lib.hid hK
        have hcell' := Lib.hid hcell
        have hlo' := Lib.hid hlo
        clear hnext hcase hsi hcell hck q0 q1 q2 HP hK htk hlo
        obtain ⟨X, hX⟩ : ∃ X, tx x = X := ⟨_, rfl⟩
        rw [hX] at c1
        have HX := Lib.hid hX
        clear hX
        by_cases hi0 : 0 < i
        · have hi0' : (0 : Int) < (i : Int) := by omega
          obtain ⟨j, hj⟩ : ∃ j, i = j + 1 := ⟨i - 1, by omega⟩
          obtain ⟨⟨k', x', a'⟩, htj⟩ : ∃ t, L[j]? = some t := ⟨_, List.getElem?_eq_getElem (show j < L.length by have := HNL.out; omega)⟩
          have cj := hcell'.out _ _ (tkc_at htj).2.2
          have hlo2 := hlo'.out j _ hj htj
          simp only at cj hlo2
          have s0 : IntKind.i64.wrap ((i : Int) - 1) = (j : Int) := by rw [show (i : Int) - 1 = (j : Int) by omega]; exact IntWalk.i64_in _ (by have := HSB.out; omega)
          have hjb : (j : Int) < (nL : Int) := by omega
          have f1 : ¬ (a : Int) ≤ (a' : Int) := by omega
          have d1 : decide (a ≤ a') = false := decide_eq_false (by omega)
          have d11 : decide ((a : Int) ≤ (a' : Int)) = false := decide_eq_false f1
          clear hj htj hlo2 hlo' h1 h2 h3 h4
          go_wp2_with fail
          go_big_quiet (fail)
          rcases HCs.out with ⟨hk, hc⟩ | ⟨hk, t, hst, hc⟩ | ⟨hk, t, hst, hc⟩ | ⟨hk, hx, t, hst, hc⟩ | ⟨hk, hc⟩
          · have HR := Lib.hid (HN.out (k :: st) (by rw [List.length_cons]; have := HSI.out; omega) hc)
            clear HCs hc
            rcases hk with rfl | rfl
            · go_wp2_with (at_builtin; refine wp_row _ rfl _ _ 28 rfl w2.heap.size 3 _ 1 8 Tryd.underlying28 infoIntR rfl (by decide) ao cp K (cs .i64 st.reverse) rfl #[.int .i64 7] rfl (by intro u hu; simp at hu; subst hu; rfl) _ rfl (by rw [← HK.out]; exact HW.out.1) (by have := HK.out; have := HSI.out; have := HSB.out; omega) (by have := HK.out; have := HSI.out; have := HSB.out; unfold maxLen; omega) (by have := HW.out.2.size; simpa using this) ?_; intro a3 c3 w3 e1 e2 e3)
              have HW3 : Hid (RisW w2 w3 a3 (7 :: st) c3) := Lib.hid ⟨by rw [List.length_cons, HK.out, List.reverse_cons, cs_append]; exact e1, HW.out.2.trans ((bdN (Below.refl _ _) _).trans e2)⟩
              clear e1 e2 e3
              go_wp2
              go_roundg (gk - 1)
              case measure => have := HI.out; have := HLT.out; omega
              case rel => exact ⟨i + 1, 7 :: st, a3, c3, by have := HI.out; have := HLT.out; omega, by go_num, by rw [List.length_cons, HK.out], HR, HW3⟩
            · go_wp2_with (at_builtin; refine wp_row _ rfl _ _ 28 rfl w2.heap.size 3 _ 1 8 Tryd.underlying28 infoIntR rfl (by decide) ao cp K (cs .i64 st.reverse) rfl #[.int .i64 9] rfl (by intro u hu; simp at hu; subst hu; rfl) _ rfl (by rw [← HK.out]; exact HW.out.1) (by have := HK.out; have := HSI.out; have := HSB.out; omega) (by have := HK.out; have := HSI.out; have := HSB.out; unfold maxLen; omega) (by have := HW.out.2.size; simpa using this) ?_; intro a3 c3 w3 e1 e2 e3)
              have HW3 : Hid (RisW w2 w3 a3 (9 :: st) c3) := Lib.hid ⟨by rw [List.length_cons, HK.out, List.reverse_cons, cs_append]; exact e1, HW.out.2.trans ((bdN (Below.refl _ _) _).trans e2)⟩
              clear e1 e2 e3
              go_wp2
              go_roundg (gk - 1)
              case measure => have := HI.out; have := HLT.out; omega
              case rel => exact ⟨i + 1, 9 :: st, a3, c3, by have := HI.out; have := HLT.out; omega, by go_num, by rw [List.length_cons, HK.out], HR, HW3⟩
          · subst hst
            subst hk
            have HR := Lib.hid (HN.out t (by have := HSI.out; rw [List.length_cons] at this; omega) hc)
            obtain ⟨b2, rfl, hct, hk2, ho⟩ := OwnV.push_topI HW.out.1
            have HW3 : Hid (∀ n, RisW w2 (wr.drewN n) (some ⟨b2, 0, none⟩) t cp) := Lib.hid (fun n => ⟨ho, bdN HW.out.2 n⟩)
            have hKt : t.length + 1 = K := by have := HK.out; rw [List.length_cons] at this; exact this
            have z0 : ((K : Int) == 0) = false := by rw [beq_eq_false_iff_ne]; omega
            have z1 : IntKind.i64.wrap ((K : Int) - 1) = (t.length : Int) := by rw [show (K : Int) - 1 = (t.length : Int) by omega]; exact IntWalk.i64_in _ (by have := HSI.out; have := HSB.out; rw [List.length_cons] at *; omega)
            have hK1 : t.length < K := by omega
            have hK2 : t.length ≤ cp := by omega
            have hK3 : (t.length : Int) ≤ (cp : Int) := by omega
            have hK4 : (t.length : Int) < (K : Int) := by omega
            have hK5 : K ≤ cp := by omega
            clear HCs hc ho hk2 hKt
            obtain ⟨m, hm⟩ : ∃ m, t.length = m := ⟨_, rfl⟩
            rw [hm] at z1 hK1 hK4 hct hK2 hK3
            have HM := Lib.hid hm
            clear hm
            go_wp2
            go_roundg (gk - 1)
            case measure => have := HI.out; have := HLT.out; omega
            case rel => exact ⟨i + 1, t, _, cp, by have := HI.out; have := HLT.out; omega, by go_num, by rw [HM.out], HR, HW3.out _⟩
          · subst hst
            subst hk
            have HR := Lib.hid (HN.out t (by have := HSI.out; rw [List.length_cons] at this; omega) hc)
            obtain ⟨b2, rfl, hct, hk2, ho⟩ := OwnV.push_topI HW.out.1
            have HW3 : Hid (∀ n, RisW w2 (wr.drewN n) (some ⟨b2, 0, none⟩) t cp) := Lib.hid (fun n => ⟨ho, bdN HW.out.2 n⟩)
            have hKt : t.length + 1 = K := by have := HK.out; rw [List.length_cons] at this; exact this
            have z0 : ((K : Int) == 0) = false := by rw [beq_eq_false_iff_ne]; omega
            have z1 : IntKind.i64.wrap ((K : Int) - 1) = (t.length : Int) := by rw [show (K : Int) - 1 = (t.length : Int) by omega]; exact IntWalk.i64_in _ (by have := HSI.out; have := HSB.out; rw [List.length_cons] at *; omega)
            have hK1 : t.length < K := by omega
            have hK2 : t.length ≤ cp := by omega
            have hK3 : (t.length : Int) ≤ (cp : Int) := by omega
            have hK4 : (t.length : Int) < (K : Int) := by omega
            have hK5 : K ≤ cp := by omega
            clear HCs hc ho hk2 hKt
            obtain ⟨m, hm⟩ : ∃ m, t.length = m := ⟨_, rfl⟩
            rw [hm] at z1 hK1 hK4 hct hK2 hK3
            have HM := Lib.hid hm
            clear hm
            go_wp2
            go_roundg (gk - 1)
            case measure => have := HI.out; have := HLT.out; omega
            case rel => exact ⟨i + 1, t, _, cp, by have := HI.out; have := HLT.out; omega, by go_num, by rw [HM.out], HR, HW3.out _⟩
          · subst hst
            subst hk
            have HR := Lib.hid (HN.out (7 :: t) (by have := HSI.out; omega) hc)
            obtain ⟨b2, rfl, hct, hk2, ho⟩ := OwnV.push_topI HW.out.1
            have hKt : t.length + 1 = K := by have := HK.out; rw [List.length_cons] at this; exact this
            have z0 : ((K : Int) == 0) = false := by rw [beq_eq_false_iff_ne]; omega
            have z1 : IntKind.i64.wrap ((K : Int) - 1) = (t.length : Int) := by rw [show (K : Int) - 1 = (t.length : Int) by omega]; exact IntWalk.i64_in _ (by have := HSI.out; have := HSB.out; rw [List.length_cons] at *; omega)
            have hK1 : t.length < K := by omega
            have hK4 : (t.length : Int) < (K : Int) := by omega
            have x1 : X.toList.isEmpty = false := by rw [← HX.out, ByteArray.toList_eq, List.isEmpty_eq_false_iff]; simpa [tx] using hx
            have x0 : ¬ X = ⟨#[]⟩ := by rw [← HX.out]; exact tx_ne hx
            clear HCs hc ho hk2 hKt
            obtain ⟨m, hm⟩ : ∃ m, t.length = m := ⟨_, rfl⟩
            rw [hm] at z1 hK1 hK4 hct
            have HM := Lib.hid hm
            clear hm
            go_wp2
            go_roundg (gk - 1)
            case measure => have := HI.out; have := HLT.out; omega
            case rel => exact ⟨i + 1, 7 :: t, _, cp, by have := HI.out; have := HLT.out; omega, by go_num, by rw [HK.out], HR, Lib.hid (HW.out.dN _)⟩
          · have HR := Lib.hid (HN.out st (by have := HSI.out; omega) hc)
            have y7 : ((k : Int) == 7) = false := by rw [beq_eq_false_iff_ne]; omega
            have y8 : ((k : Int) == 8) = false := by rw [beq_eq_false_iff_ne]; omega
            have y9 : ((k : Int) == 9) = false := by rw [beq_eq_false_iff_ne]; omega
            have y10 : ((k : Int) == 10) = false := by rw [beq_eq_false_iff_ne]; omega
            have y11 : ((k : Int) == 11) = false := by rw [beq_eq_false_iff_ne]; omega
            clear HCs hc
            go_wp2
            go_roundg (gk - 1)
            case measure => have := HI.out; have := HLT.out; omega
            case rel => exact ⟨i + 1, st, _, cp, by have := HI.out; have := HLT.out; omega, by go_num, by rw [HK.out], HR, Lib.hid (HW.out.dN _)⟩
        · obtain rfl : i = 0 := by omega
          have hib0 : (0 : Int) < (nL : Int) := by omega
          simp only [Nat.zero_mul, Nat.zero_add] at c0 c1 c2
          clear hlo' h1 h2 h3 h4 hi0 hib hlt
          go_wp2_with fail
          go_big_quiet (fail)
          rcases HCs.out with ⟨hk, hc⟩ | ⟨hk, t, hst, hc⟩ | ⟨hk, t, hst, hc⟩ | ⟨hk, hx, t, hst, hc⟩ | ⟨hk, hc⟩
          · have HR := Lib.hid (HN.out (k :: st) (by rw [List.length_cons]; have := HSI.out; omega) hc)
            clear HCs hc
            rcases hk with rfl | rfl
            · go_wp2_with (at_builtin; refine wp_row _ rfl _ _ 28 rfl w2.heap.size 3 _ 1 8 Tryd.underlying28 infoIntR rfl (by decide) ao cp K (cs .i64 st.reverse) rfl #[.int .i64 7] rfl (by intro u hu; simp at hu; subst hu; rfl) _ rfl (by rw [← HK.out]; exact HW.out.1) (by have := HK.out; have := HSI.out; have := HSB.out; omega) (by have := HK.out; have := HSI.out; have := HSB.out; unfold maxLen; omega) (by have := HW.out.2.size; simpa using this) ?_; intro a3 c3 w3 e1 e2 e3)
              have HW3 : Hid (RisW w2 w3 a3 (7 :: st) c3) := Lib.hid ⟨by rw [List.length_cons, HK.out, List.reverse_cons, cs_append]; exact e1, HW.out.2.trans ((bdN (Below.refl _ _) _).trans e2)⟩
              clear e1 e2 e3
              go_wp2
              go_roundg (gk - 1)
              case measure => have := HI.out; have := HLT.out; omega
              case rel => exact ⟨0 + 1, 7 :: st, a3, c3, by have := HI.out; have := HLT.out; omega, by go_num, by rw [List.length_cons, HK.out], HR, HW3⟩
            · go_wp2_with (at_builtin; refine wp_row _ rfl _ _ 28 rfl w2.heap.size 3 _ 1 8 Tryd.underlying28 infoIntR rfl (by decide) ao cp K (cs .i64 st.reverse) rfl #[.int .i64 9] rfl (by intro u hu; simp at hu; subst hu; rfl) _ rfl (by rw [← HK.out]; exact HW.out.1) (by have := HK.out; have := HSI.out; have := HSB.out; omega) (by have := HK.out; have := HSI.out; have := HSB.out; unfold maxLen; omega) (by have := HW.out.2.size; simpa using this) ?_; intro a3 c3 w3 e1 e2 e3)
              have HW3 : Hid (RisW w2 w3 a3 (9 :: st) c3) := Lib.hid ⟨by rw [List.length_cons, HK.out, List.reverse_cons, cs_append]; exact e1, HW.out.2.trans ((bdN (Below.refl _ _) _).trans e2)⟩
              clear e1 e2 e3
              go_wp2
              go_roundg (gk - 1)
              case measure => have := HI.out; have := HLT.out; omega
              case rel => exact ⟨0 + 1, 9 :: st, a3, c3, by have := HI.out; have := HLT.out; omega, by go_num, by rw [List.length_cons, HK.out], HR, HW3⟩
          · subst hst
            subst hk
            have HR := Lib.hid (HN.out t (by have := HSI.out; rw [List.length_cons] at this; omega) hc)
            obtain ⟨b2, rfl, hct, hk2, ho⟩ := OwnV.push_topI HW.out.1
            have HW3 : Hid (∀ n, RisW w2 (wr.drewN n) (some ⟨b2, 0, none⟩) t cp) := Lib.hid (fun n => ⟨ho, bdN HW.out.2 n⟩)
            have hKt : t.length + 1 = K := by have := HK.out; rw [List.length_cons] at this; exact this
            have z0 : ((K : Int) == 0) = false := by rw [beq_eq_false_iff_ne]; omega
            have z1 : IntKind.i64.wrap ((K : Int) - 1) = (t.length : Int) := by rw [show (K : Int) - 1 = (t.length : Int) by omega]; exact IntWalk.i64_in _ (by have := HSI.out; have := HSB.out; rw [List.length_cons] at *; omega)
            have hK1 : t.length < K := by omega
            have hK2 : t.length ≤ cp := by omega
            have hK3 : (t.length : Int) ≤ (cp : Int) := by omega
            have hK4 : (t.length : Int) < (K : Int) := by omega
            have hK5 : K ≤ cp := by omega
            clear HCs hc ho hk2 hKt
            obtain ⟨m, hm⟩ : ∃ m, t.length = m := ⟨_, rfl⟩
            rw [hm] at z1 hK1 hK4 hct hK2 hK3
            have HM := Lib.hid hm
            clear hm
            go_wp2
            go_roundg (gk - 1)
            case measure => have := HI.out; have := HLT.out; omega
            case rel => exact ⟨0 + 1, t, _, cp, by have := HI.out; have := HLT.out; omega, by go_num, by rw [HM.out], HR, HW3.out _⟩
          · subst hst
            subst hk
            have HR := Lib.hid (HN.out t (by have := HSI.out; rw [List.length_cons] at this; omega) hc)
            obtain ⟨b2, rfl, hct, hk2, ho⟩ := OwnV.push_topI HW.out.1
            have HW3 : Hid (∀ n, RisW w2 (wr.drewN n) (some ⟨b2, 0, none⟩) t cp) := Lib.hid (fun n => ⟨ho, bdN HW.out.2 n⟩)
            have hKt : t.length + 1 = K := by have := HK.out; rw [List.length_cons] at this; exact this
            have z0 : ((K : Int) == 0) = false := by rw [beq_eq_false_iff_ne]; omega
            have z1 : IntKind.i64.wrap ((K : Int) - 1) = (t.length : Int) := by rw [show (K : Int) - 1 = (t.length : Int) by omega]; exact IntWalk.i64_in _ (by have := HSI.out; have := HSB.out; rw [List.length_cons] at *; omega)
            have hK1 : t.length < K := by omega
            have hK2 : t.length ≤ cp := by omega
            have hK3 : (t.length : Int) ≤ (cp : Int) := by omega
            have hK4 : (t.length : Int) < (K : Int) := by omega
            have hK5 : K ≤ cp := by omega
            clear HCs hc ho hk2 hKt
            obtain ⟨m, hm⟩ : ∃ m, t.length = m := ⟨_, rfl⟩
            rw [hm] at z1 hK1 hK4 hct hK2 hK3
            have HM := Lib.hid hm
            clear hm
            go_wp2
            go_roundg (gk - 1)
            case measure => have := HI.out; have := HLT.out; omega
            case rel => exact ⟨0 + 1, t, _, cp, by have := HI.out; have := HLT.out; omega, by go_num, by rw [HM.out], HR, HW3.out _⟩
          · subst hst
            subst hk
            have HR := Lib.hid (HN.out (7 :: t) (by have := HSI.out; omega) hc)
            obtain ⟨b2, rfl, hct, hk2, ho⟩ := OwnV.push_topI HW.out.1
            have hKt : t.length + 1 = K := by have := HK.out; rw [List.length_cons] at this; exact this
            have z0 : ((K : Int) == 0) = false := by rw [beq_eq_false_iff_ne]; omega
            have z1 : IntKind.i64.wrap ((K : Int) - 1) = (t.length : Int) := by rw [show (K : Int) - 1 = (t.length : Int) by omega]; exact IntWalk.i64_in _ (by have := HSI.out; have := HSB.out; rw [List.length_cons] at *; omega)
            have hK1 : t.length < K := by omega
            have hK4 : (t.length : Int) < (K : Int) := by omega
            have x1 : X.toList.isEmpty = false := by rw [← HX.out, ByteArray.toList_eq, List.isEmpty_eq_false_iff]; simpa [tx] using hx
            have x0 : ¬ X = ⟨#[]⟩ := by rw [← HX.out]; exact tx_ne hx
            clear HCs hc ho hk2 hKt
            obtain ⟨m, hm⟩ : ∃ m, t.length = m := ⟨_, rfl⟩
            rw [hm] at z1 hK1 hK4 hct
            have HM := Lib.hid hm
            clear hm
            go_wp2
            go_roundg (gk - 1)
            case measure => have := HI.out; have := HLT.out; omega
            case rel => exact ⟨0 + 1, 7 :: t, _, cp, by have := HI.out; have := HLT.out; omega, by go_num, by rw [HK.out], HR, Lib.hid (HW.out.dN _)⟩
          · have HR := Lib.hid (HN.out st (by have := HSI.out; omega) hc)
            have y7 : ((k : Int) == 7) = false := by rw [beq_eq_false_iff_ne]; omega
            have y8 : ((k : Int) == 8) = false := by rw [beq_eq_false_iff_ne]; omega
            have y9 : ((k : Int) == 9) = false := by rw [beq_eq_false_iff_ne]; omega
            have y10 : ((k : Int) == 10) = false := by rw [beq_eq_false_iff_ne]; omega
            have y11 : ((k : Int) == 11) = false := by rw [beq_eq_false_iff_ne]; omega
            clear HCs hc
            go_wp2
            go_roundg (gk - 1)
            case measure => have := HI.out; have := HLT.out; omega
            case rel => exact ⟨0 + 1, st, _, cp, by have := HI.out; have := HLT.out; omega, by go_num, by rw [HK.out], HR, Lib.hid (HW.out.dN _)⟩
        --END
      · have hlt' : ¬ (i : Int) < (nL : Int) := by omega
        have hst : st = [] := by
          obtain ⟨_, _, lo, h1, _⟩ := HP.out
          rw [List.drop_of_length_le (by have := HNL.out; omega)] at h1
          simpa [ckT] using h1
        subst hst
        have HB : Hid (Below w.heap.size w wr) := Lib.hid (G2.out.1.trans (HW.out.2.mono G2.out.1.size))
        clear HP HW hlt hi
        go_wp2
        go_ret
        exact ⟨rfl, HB.out⟩
  · obtain ⟨hL, hat⟩ := HC.out.2 he
    subst hL
    have hat' : (at0 : Int) ≤ (s.size : Int) := by omega
    have he' : ((er : Int) != 0) = true := by rw [bne_iff_ne]; omega
    clear he HC
    go_enter Tryd.func4, Tryd.ntmps4
    go_wp2_with fail
    refine X.out.mono ?_
    rintro r w1 ⟨rfl, hg⟩
    have G1 := Lib.hid hg
    clear hg X
    go_wp2_with fail
    refine (HGR.out w1).mono ?_
    rintro r w2 ⟨rfl, rfl⟩
    go_wp2_with fail
    refine (HT.out w1 G1.out).mono ?_
    rintro r w2 ⟨la, lc, rfl, hol, hb⟩
    have G2 := Lib.hid (G1.out.next hb)
    clear hol hb G1 HT HGR
    go_wp2
    go_ret
    exact ⟨rfl, G2.out.1⟩
end Go.Proofs.YtjjacffacmpopaaDoor
