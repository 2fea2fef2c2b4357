/- lex: what the law LexBlanks looks at: a token's own text, its parts. -/
import Derived.Test.YtjjacffacmpopaaDoorLexRisesM
import Derived.Test.YtjjacffacmpopaaDoorLexMathDs
import Derived.Test.YtjjacffacmpopaaDoorLexRises
import Derived.BigQuiet
namespace Go.Proofs.YtjjacffacmpopaaDoor
open Go.RowKit UM QM LX

theorem lx_cat (a b : List Nat) : tx a ++ tx b = tx (a ++ b) := by
  apply bl_inj
  unfold bl
  rw [ByteArray.data_append, Array.toList_append, List.map_append, tx_list, tx_list, tx_list, List.map_append, List.map_append]
set_option maxRecDepth 100000 in
set_option maxHeartbeats 1000000 in
theorem lexWritten_any (k : Nat) (x : List Nat) (a : Nat) (w : World) (hx : x.length ≤ 100000) : Calls Tryd.prog 14 #[.agg #[.int .i64 (k : Int), .string (tx x), .int .i64 (a : Int)]] w fun e w' => e = .returned (.string (tx (wrT k x))) ∧ Below w.heap.size w w' := by
  have hz : (tx x).size ≤ 100000 := by rw [tx_size]; exact hx
  have e3 : (⟨#[46]⟩ : ByteArray) ++ tx x = tx (46 :: x) := lx_cat [46] x
  have e4 : (⟨#[36]⟩ : ByteArray) ++ tx x = tx (36 :: x) := lx_cat [36] x
  have HB : Hid (Below w.heap.size w (w.alloc (.cells #[.int .i64 (k : Int), .string (tx x), .int .i64 (a : Int)] 30))) := Lib.hid ((Below.refl _ _).alloc (Nat.le_refl _) _)
  by_cases h3 : k = 3
  · subst h3
    have E : tx (wrT 3 x) = tx (46 :: x) := rfl
    rw [E, ← e3]
    generalize tx x = X at *
    clear e3 e4 E
    go_enter Tryd.func14, Tryd.ntmps14
    go_wp2
    go_ret
    exact ⟨rfl, HB.out⟩
  by_cases h4 : k = 4
  · subst h4
    have E : tx (wrT 4 x) = tx (36 :: x) := rfl
    rw [E, ← e4]
    generalize tx x = X at *
    clear e3 e4 E
    go_enter Tryd.func14, Tryd.ntmps14
    go_wp2
    go_ret
    exact ⟨rfl, HB.out⟩
  · have E : wrT k x = x := by unfold wrT; rw [if_neg h3, if_neg h4]
    rw [E]
    have k3 : ((k : Int) == 3) = false := by rw [beq_eq_false_iff_ne]; omega
    have k4 : ((k : Int) == 4) = false := by rw [beq_eq_false_iff_ne]; omega
    generalize tx x = X at *
    clear e3 e4 E h3 h4
    go_enter Tryd.func14, Tryd.ntmps14
    go_wp2
    go_ret
    exact ⟨rfl, HB.out⟩
theorem wrT_len (k : Nat) (x : List Nat) : (wrT k x).length ≤ x.length + 1 := by
  unfold wrT; split
  · simp
  split
  · simp
  · omega
theorem spr_take {nt : List Nat} : ∀ {L : List Tk} {i : Nat} {t : Tk}, L[i]? = some t → spr nt (L.take (i + 1)) = spr nt (L.take i) ++ (wrT t.1 t.2.1 ++ ((32 :: 35 :: nt) ++ [10]))
  | [], i, t, h => by simp at h
  | u :: L, 0, t, h => by
    obtain rfl : u = t := by simpa using h
    simp [spr]
  | u :: L, i + 1, t, h => by
    have ih := spr_take (nt := nt) (L := L) (i := i) (t := t) (by simpa using h)
    rw [List.take_succ_cons, List.take_succ_cons]
    simp only [spr]
    rw [ih]
    simp
theorem spr_len {nt : List Nat} {m : Nat} : ∀ {L : List Tk}, (∀ t ∈ L, t.2.1.length ≤ m) → (spr nt L).length ≤ L.length * (m + nt.length + 4)
  | [], _ => by simp [spr]
  | t :: L, h => by
    have ih := spr_len (nt := nt) (L := L) (fun u hu => h u (List.mem_cons_of_mem _ hu))
    have h1 := h t (List.mem_cons_self ..)
    have h2 := wrT_len t.1 t.2.1
    simp only [spr, List.length_append, List.length_cons]
    rw [Nat.succ_mul]
    omega
theorem sgnR_len (r : List Nat) : (sgnR r).length ≤ r.length := by
  by_cases h : sgnR r = []
  · rw [h]; exact Nat.zero_le _
  · exact (pfx_le (fsF_mem h).2).1
theorem tkR_xl (op : List Nat) (c : Nat) (t : List Nat) : (tkR op (c :: t)).2.2.1.length ≤ (c :: t).length := by
  have h1 := sgnR_len (c :: t)
  have h2 : ∀ n, ((c :: t).take n).length ≤ (c :: t).length := fun n => by rw [List.length_take]; exact Nat.min_le_right _ _
  have h3 : ∀ n, (t.take n).length ≤ (c :: t).length := fun n => by rw [List.length_take, List.length_cons]; omega
  simp only [tkR]
  split
  · exact h2 _
  split
  · exact h2 _
  split
  · exact h3 _
  split
  · exact h3 _
  split
  · exact h2 _
  split
  · split <;> exact Nat.zero_le _
  split
  · exact Nat.zero_le _
  split
  · exact Nat.zero_le _
  split
  · simp
  split
  · simp
  · exact h1
theorem lx_xl : ∀ (f : Nat) (op : List Nat) (p : Nat) (r : List Nat), ∀ u ∈ (lxR f op p r).1, u.1 ≤ 6 → u.2.1.length ≤ r.length
  | 0, _, _, _, u, hu, _ => by simp [lxR] at hu
  | f + 1, op, p, r, u, hu, hk => by
    have key : ∀ op p n, u ∈ (lxR f op p (r.drop n)).1 → u.2.1.length ≤ r.length := fun op p n h => by
      have := lx_xl f op p (r.drop n) u h hk
      rw [List.length_drop] at this; omega
    simp only [lxR] at hu
    by_cases h1 : r.drop (skR op r) = []
    · rw [if_pos h1] at hu; simp at hu
    rw [if_neg h1] at hu
    by_cases hi : inn op = 1
    · rw [if_pos hi] at hu
      generalize pcR r.length r = q at hu
      have ht : ∀ p n s, u ∉ txR p n s := fun p n s h => by
        unfold txR at h; split at h
        · rw [List.mem_singleton] at h; subst h; simp at hk
        · simp at h
      split at hu
      · simp only [LX.pre, List.mem_append, List.mem_singleton] at hu
        rcases hu with (hu | hu) | hu
        · exact absurd hu (ht _ _ _)
        · subst hu; simp at hk
        · exact key _ _ _ hu
      split at hu
      · simp only [LX.pre, List.mem_append, List.mem_singleton] at hu
        rcases hu with (hu | hu) | hu
        · exact absurd hu (ht _ _ _)
        · subst hu; simp at hk
        · exact key _ _ _ hu
      split at hu <;> simp at hu
    · rw [if_neg hi] at hu
      obtain ⟨c, t, hct⟩ : ∃ c t, r.drop (skR op r) = c :: t := by
        cases hq : r.drop (skR op r) with
        | nil => exact absurd hq h1
        | cons c t => exact ⟨c, t, rfl⟩
      have hx := tkR_xl op c t
      have hl : (c :: t).length ≤ r.length := by rw [← hct, List.length_drop]; omega
      rw [hct] at hu
      generalize tkR op (c :: t) = q at hu hx
      split at hu
      · simp only [LX.pre, List.mem_append, List.mem_singleton] at hu
        rcases hu with hu | hu
        · subst hu; exact Nat.le_trans hx hl
        · exact key _ _ _ hu
      · simp at hu
theorem tkF_xl (l : List Nat) : ∀ u ∈ (tkF l).1, u.1 ≤ 6 → u.2.1.length ≤ l.length := by
  intro u hu hk
  unfold tkF at hu
  split at hu
  · simp at hu
  split at hu
  · simp at hu
  split at hu
  · exact lx_xl _ _ _ _ u hu hk
  · simp at hu
theorem kt_at {L L2 : List Tk} (h : kt L2 = kt L) {i : Nat} {t : Tk} (ht : L[i]? = some t) : ∃ a, L2[i]? = some (t.1, t.2.1, a) := by
  have e : (kt L2)[i]? = (kt L)[i]? := by rw [h]
  unfold kt at e
  rw [List.getElem?_map, List.getElem?_map, ht] at e
  cases hq : L2[i]? with
  | none => rw [hq] at e; cases e
  | some v =>
    rw [hq] at e
    have e2 : (v.1, v.2.1) = (t.1, t.2.1) := Option.some.inj e
    obtain ⟨e3, e4⟩ := Prod.mk.inj e2
    exact ⟨v.2.2, by rw [← e3, ← e4]⟩
theorem kt_len {L L2 : List Tk} (h : kt L2 = kt L) : L2.length = L.length := by
  have := congrArg List.length h
  unfold kt at this
  rwa [List.length_map, List.length_map] at this
end Go.Proofs.YtjjacffacmpopaaDoor

/- Walk of the law LexBlanks. -/
namespace Go.Proofs.YtjjacffacmpopaaDoor
open Go.RowKit UM QM LX

set_option maxRecDepth 100000 in
set_option maxHeartbeats 8000000 in
theorem lexBlanks_walk {s note : ByteArray} (w : World) (ht : Tabs2 w) (hs : s.size ≤ 140737488351232) (hno : note.size ≤ 140737488351232) : Calls Tryd.prog 5 #[.string s, .string note] w fun r w' => r = .returned (.bool true) ∧ Below w.heap.size w w' := by
  have X := Lib.hid (xshown_any w ht.1 ht.2)
  have HGR := Lib.hid (fun w => great14_any s w)
  obtain ⟨L, a0, er, hq⟩ : ∃ L a0 er, tkF (bl s) = (L, a0, er) := ⟨_, _, _, rfl⟩
  have HT := Lib.hid (fun W (h : GoX w W) => Tokens_is hq W hs h.2.1 h.2.2)
  have hC := tkF_ck (bl s)
  rw [hq, bl_len] at hC
  simp only at hC
  have HC := Lib.hid hC; have HQ := Lib.hid hq
  clear ht hC hq
  cases hgr : gre s.size with
  | true =>
    rw [hgr] at HGR
    clear hgr
    go_enter Tryd.func5, Tryd.ntmps5
    go_wp2_with fail
    refine X.out.mono ?_
    rintro r w1 ⟨rfl, hg⟩
    have G1 := Lib.hid hg
    clear hg X
    go_wp2_with fail
    refine (HGR.out w1).mono ?_
    rintro r w2 ⟨rfl, rfl⟩
    go_wp2
    go_ret
    exact ⟨rfl, G1.out.1⟩
  | false =>
  rw [hgr] at HGR
  by_cases he : er = 0
  · subst he
    obtain ⟨hck, hsz⟩ := HC.out.1 rfl
    have hs3 : s.size ≤ 3000 := by
      unfold gre at hgr
      rw [Bool.and_eq_false_iff, decide_eq_false_iff_not, decide_eq_false_iff_not] at hgr
      omega
    have hlen := ck_len hck
    obtain ⟨nL, hnL⟩ : ∃ n, n = L.length := ⟨_, rfl⟩
    have hnb : nL ≤ 3000 := by
      rcases hlen with h | h
      · rw [hnL, h]; simp
      · omega
    have HNL := Lib.hid hnL
    have hxl : ∀ t ∈ L, t.1 ≤ 6 → t.2.1.length ≤ 3000 := fun t ht hk => by
      have := tkF_xl (bl s) t (by rw [HQ.out]; exact ht) hk
      rw [bl_len] at this; omega
    have HXL := Lib.hid hxl
    clear HC hck hsz hlen hnL hxl hgr
    go_enter Tryd.func5, Tryd.ntmps5
    go_wp2_with fail
    refine X.out.mono ?_
    rintro r w1 ⟨rfl, hg⟩
    have G1 := Lib.hid hg
    clear hg X
    go_wp2_with fail
    refine (HGR.out w1).mono ?_
    rintro r w2 ⟨rfl, rfl⟩
    go_wp2_with fail
    refine (HT.out w1 G1.out).mono ?_
    rintro r w2 ⟨la, lc, rfl, hol, hb⟩
    rw [← HNL.out] at hol ⊢
    have HOL := Lib.hid hol
    have G2 := Lib.hid (G1.out.next hb)
    clear hol hb G1 HT HGR
    go_wp2_with fail
    go_loopg [9] note.size (fun g s9 wr => ∃ (i : Nat), i + g = note.size ∧ s9 = .int .i64 (i : Int) ∧ w2 = wr ∧ Hid (∀ b ∈ (bl note).take i, b ≠ 10 ∧ b < 128))
    case atStart => exact ⟨0, by omega, rfl, rfl, Lib.hid (fun b hb => by simp at hb)⟩
    case round =>
      obtain ⟨i, hi, rfl, rfl, HB⟩ := hrel
      by_cases hlt : i < note.size
      · have hltI : (i : Int) < (note.size : Int) := by omega
        obtain ⟨c, hc⟩ : ∃ c, (bl note)[i]? = some c := ⟨_, List.getElem?_eq_getElem (by rw [bl_len]; exact hlt)⟩
        have HN : Hid (¬ (note[i].toNat : Int) = 10 → (note[i].toNat : Int) ≤ 127 → ∀ b ∈ (bl note).take (i + 1), b ≠ 10 ∧ b < 128) := Lib.hid (fun h1 h2 b hb => by
          rw [List.take_add_one, List.mem_append] at hb
          rcases hb with hb | hb
          · exact HB.out b hb
          · have e : c = note[i].toNat := by
              have h3 := bl_get note i hlt
              rw [hc] at h3
              exact h3
            rw [hc] at hb
            simp at hb
            omega)
        have HI := Lib.hid hi; have HLT := Lib.hid hlt
        clear hc HB hi
        go_wp2_with fail
        · go_ret
          exact ⟨rfl, G2.out.1⟩
        · go_ret
          exact ⟨rfl, G2.out.1⟩
        · rename_i h1 h2
          have HN2 := Lib.hid (HN.out h1 h2.2)
          clear h1 h2 HN
          go_roundg (gk - 1)
          case measure => have := HI.out; have := HLT.out; omega
          case rel => exact ⟨i + 1, by have := HI.out; have := HLT.out; omega, by go_num, rfl, HN2⟩
      · have hlt' : ¬ (i : Int) < (note.size : Int) := by omega
        have HG : Hid (∀ b ∈ bl note, b ≠ 10 ∧ b < 128) := Lib.hid (by
          have := HB.out
          rwa [List.take_of_length_le (by rw [bl_len]; omega)] at this)
        clear HB hlt hi
        go_wp2_with fail
        clear hlt'
        go_loopg [10, 11] nL (fun g s10 s11 wr => ∃ (i : Nat) (S : ByteArray), i + g = nL ∧ s11 = .int .i64 (i : Int) ∧ s10 = .string S ∧ Hid (S = tx (9 :: spr (bl note) (L.take i)) ∧ ∀ u ∈ L.take i, u.1 ≤ 6) ∧ Hid (Below w2.heap.size w2 wr))
        case atStart => exact ⟨0, ⟨#[9]⟩, by omega, rfl, rfl, Lib.hid ⟨rfl, fun u hu => by simp at hu⟩, Lib.hid (Below.refl _ _)⟩
        case round =>
          obtain ⟨i, S, hi, rfl, rfl, HS, HW⟩ := hrel
          by_cases hlt : i < nL
          · have hltI : (i : Int) < (nL : Int) := by omega
            obtain ⟨⟨k, x, a⟩, htk⟩ : ∃ t, L[i]? = some t := ⟨_, List.getElem?_eq_getElem (show i < L.length by have := HNL.out; omega)⟩
            obtain ⟨b, rfl⟩ : ∃ b, la = some ⟨b, 0, none⟩ := by
              rcases HOL.out.shape with ⟨_, _, h0, _⟩ | ⟨b, cur, h0, _⟩
              · omega
              · exact ⟨b, h0⟩
            obtain ⟨q0, q1, q2⟩ := tkc_at htk
            have hcl : ∀ j v, (tkc L)[j]? = some v → wr.cell? ⟨b, j, none⟩ = some v := fun j v hv => lxCell HW.out (HOL.out.cellAt hv)
            have c0 := hcl _ _ q0; have c1 := hcl _ _ q1; have c2 := hcl _ _ q2
            simp only at c0 c1 c2
            have HI := Lib.hid hi; have HLT := Lib.hid hlt; have HTK := Lib.hid htk
            clear q0 q1 q2 hcl hlt htk
            by_cases hk : k ≤ 6
            · have hkI : ¬ (6 : Int) < (k : Int) := by omega
              have hx : x.length ≤ 3000 := HXL.out _ (List.mem_of_getElem? HTK.out) hk
              have HWR := Lib.hid (fun w => lexWritten_any k x a w (by omega))
              have hW : (tx (wrT k x)).size ≤ 3001 := by rw [tx_size]; have := wrT_len k x; omega
              have hX : (tx x).size ≤ 3000 := by rw [tx_size]; exact hx
              have hS : S.size ≤ 1000000000000000000 := by
                rw [HS.out.1, tx_size, List.length_cons]
                have h1 := spr_len (nt := bl note) (m := 3000) (L := L.take i) (fun u hu => HXL.out u (List.mem_of_mem_take hu) (HS.out.2 u hu))
                have h2 : (L.take i).length ≤ 3000 := by rw [List.length_take]; omega
                have h3 : (L.take i).length * (3000 + (bl note).length + 4) ≤ 3000 * (3000 + 140737488351232 + 4) := Nat.mul_le_mul h2 (by rw [bl_len]; omega)
                omega
              have HN : Hid (S ++ tx (wrT k x) ++ ⟨#[32, 35]⟩ ++ note ++ ⟨#[10]⟩ = tx (9 :: spr (bl note) (L.take (i + 1))) ∧ ∀ u ∈ L.take (i + 1), u.1 ≤ 6) := Lib.hid ⟨by
                rw [spr_take HTK.out, HS.out.1, show (⟨#[32, 35]⟩ : ByteArray) = tx [32, 35] from rfl, show (⟨#[10]⟩ : ByteArray) = tx [10] from rfl]
                conv => lhs; rw [← tx_bl note]
                rw [lx_cat, lx_cat, lx_cat, lx_cat]
                congr 1
                simp [tx_bl], fun u hu => by
                rw [List.take_add_one, HTK.out, List.mem_append] at hu
                rcases hu with hu | hu
                · exact HS.out.2 u hu
                · simp at hu; rw [hu]; exact hk⟩
              generalize tx (wrT k x) = V at *
              generalize tx x = X at *
              clear hx hk HS
              go_wp2_with fail
              refine (HWR.out _).mono ?_
              rintro r w3 ⟨rfl, hb⟩
              have HW3 := Lib.hid (HW.out.trans (hb.mono HW.out.size))
              clear hb HW HWR c0 c1 c2
              go_wp2
              go_roundg (gk - 1)
              case measure => have := HI.out; have := HLT.out; omega
              case rel => exact ⟨i + 1, _, by have := HI.out; have := HLT.out; omega, by go_num, rfl, HN, HW3⟩
            · have hkI : (6 : Int) < (k : Int) := by omega
              have HB : Hid (Below w.heap.size w wr) := Lib.hid (G2.out.1.trans (HW.out.mono G2.out.1.size))
              clear hk HW HS
              generalize tx x = X at *
              go_wp2
              go_ret
              exact ⟨rfl, HB.out⟩
          · have hlt' : ¬ (i : Int) < (nL : Int) := by omega
            have HL : Hid (S = tx (9 :: spr (bl note) L) ∧ ∀ u ∈ L, u.1 ≤ 6) := Lib.hid (by
              have := HS.out
              rwa [List.take_of_length_le (by have := HNL.out; omega)] at this)
            clear HS hlt hi
            have HW2 : Hid (Below w.heap.size w wr) := Lib.hid (G2.out.1.trans (HW.out.mono G2.out.1.size))
            by_cases hbig : 100000 < S.size
            · have hbI : (100000 : Int) < (S.size : Int) := by omega
              clear hbig HL
              go_wp2
              go_ret
              exact ⟨rfl, HW2.out⟩
            have hbI : ¬ (100000 : Int) < (S.size : Int) := by omega
            have hSb : bl S = 9 :: spr (bl note) L := by
              rw [HL.out.1]
              exact bl_tx (fun b hb => by
                rw [List.mem_cons] at hb
                rcases hb with rfl | hb
                · decide
                · have := (tkF_asc HQ.out HL.out.2 HG.out) b hb; omega)
            obtain ⟨L2, hL2, hkt⟩ := tkF_again (nt := bl note) HQ.out HL.out.2 HG.out (by rw [← hSb, bl_len]; omega)
            rw [← hSb] at hL2
            have HJ := Lib.hid (fun W (h : GoX w W) => Tokens_is hL2 W (by omega) h.2.1 h.2.2)
            have HKT := Lib.hid hkt
            have hln : L2.length = nL := (kt_len hkt).trans HNL.out.symm
            have HLN := Lib.hid hln
            have G3 : Hid (GoX w wr) := Lib.hid ⟨HW2.out, G2.out.2.1.below HW.out, G2.out.2.2.below HW.out⟩
            clear hbig hSb hL2 hkt hln HL
            go_wp2_with fail
            refine (HJ.out wr G3.out).mono ?_
            rintro r w4 ⟨ma, mc, rfl, hom, hb⟩
            rw [HLN.out] at hom ⊢
            have HOM := Lib.hid hom
            have G4 := Lib.hid (G3.out.next hb)
            have B4 := Lib.hid (HW.out.trans (hb.mono HW.out.size))
            clear hom hb G3 HJ hlt' hbI HW2
            go_wp2_with fail
            go_loopg [15] nL (fun g s15 wr => ∃ (i : Nat), i + g = nL ∧ s15 = .int .i64 (i : Int) ∧ Hid (Below w4.heap.size w4 wr))
            case atStart => exact ⟨0, by omega, rfl, Lib.hid (Below.refl _ _)⟩
            case round =>
              obtain ⟨i, hi, rfl, HV⟩ := hrel
              by_cases hlt : i < nL
              · have hltI : (i : Int) < (nL : Int) := by omega
                obtain ⟨⟨k, x, a⟩, htk⟩ : ∃ t, L[i]? = some t := ⟨_, List.getElem?_eq_getElem (show i < L.length by have := HNL.out; omega)⟩
                obtain ⟨a2, htn⟩ := kt_at HKT.out htk
                obtain ⟨b, rfl⟩ : ∃ b, la = some ⟨b, 0, none⟩ := by
                  rcases HOL.out.shape with ⟨_, _, h0, _⟩ | ⟨b, cur, h0, _⟩
                  · omega
                  · exact ⟨b, h0⟩
                obtain ⟨c, rfl⟩ : ∃ b, ma = some ⟨b, 0, none⟩ := by
                  rcases HOM.out.shape with ⟨_, _, h0, _⟩ | ⟨b, cur, h0, _⟩
                  · omega
                  · exact ⟨b, h0⟩
                obtain ⟨q0, q1, q2⟩ := tkc_at htk
                obtain ⟨p0, p1, p2⟩ := tkc_at htn
                have c0 := lxCell HV.out (lxCell B4.out (HOL.out.cellAt q0)); have c1 := lxCell HV.out (lxCell B4.out (HOL.out.cellAt q1))
                have d0 := lxCell HV.out (HOM.out.cellAt p0); have d1 := lxCell HV.out (HOM.out.cellAt p1)
                simp only at c0 c1 d0 d1
                have HI := Lib.hid hi; have HLT := Lib.hid hlt
                clear q0 q1 q2 p0 p1 p2 htk htn hi hlt
                generalize tx x = X at *
                go_wp2_with fail
                go_big_quiet (fail)
                go_wp2
                go_roundg (gk - 1)
                case measure => have := HI.out; have := HLT.out; omega
                case rel => exact ⟨i + 1, by have := HI.out; have := HLT.out; omega, by go_num, Lib.hid (bdN HV.out _)⟩
              · have hlt' : ¬ (i : Int) < (nL : Int) := by omega
                have HB : Hid (Below w.heap.size w wr) := Lib.hid (G4.out.1.trans (HV.out.mono G4.out.1.size))
                clear HV hlt hi
                go_wp2
                go_ret
                exact ⟨rfl, HB.out⟩
  · have he' : ((er : Int) != 0) = true := by rw [bne_iff_ne]; omega
    clear he HC
    go_enter Tryd.func5, Tryd.ntmps5
    go_wp2_with fail
    refine X.out.mono ?_
    rintro r w1 ⟨rfl, hg⟩
    have G1 := Lib.hid hg
    clear hg X
    go_wp2_with fail
    refine (HGR.out w1).mono ?_
    rintro r w2 ⟨rfl, rfl⟩
    go_wp2_with fail
    refine (HT.out w1 G1.out).mono ?_
    rintro r w2 ⟨la, lc, rfl, hol, hb⟩
    have G2 := Lib.hid (G1.out.next hb)
    clear hol hb G1 HT HGR
    go_wp2
    go_ret
    exact ⟨rfl, G2.out.1⟩
end Go.Proofs.YtjjacffacmpopaaDoor
