/- syntax: Parse walked. -/
import Derived.Test.YtpgiljibicigeaaGreatDoorSynYs
import Derived.Test.YtpgiljibicigeaaGreatDoorLexPs
import Derived.Test.YtpgiljibicigeaaGreatDoorLexJs
set_option linter.unusedVariables false
set_option linter.unusedSimpArgs false
namespace Go.Proofs.YtpgiljibicigeaaGreatDoor
open Go.RowKit UM QM LX SX

/-- what is read of a text -/
noncomputable def evS (s : ByteArray) : Ev := ⟨(tkF (bl s)).1.map fun t => (t.1, tx t.2.1, t.2.2), s.size, fun s => (prsA s).err, fun s => wdF (bl s)⟩
/-- what Parse tells -/
noncomputable def parF (s : ByteArray) : Rs Nd :=
  if (tkF (bl s)).2.2 = 0 then (allF (evS s)).bind fun x j => if 200 < dpt x then .err 0 6 else if 44739242 < siz x then .err 0 10 else .ok x j
  else .err (tkF (bl s)).2.1 (tkF (bl s)).2.2
abbrev ndZ : Value := .agg #[.int .i64 0, .string ⟨#[]⟩, .slice none 0 0]
def ResPs (R : Rs Nd) (w : World) (e : Ending) (w' : World) : Prop :=
  match R with
  | .ok x _ => ∃ u, e = .returned (.tuple #[u, .int .i64 0, .int .i64 0]) ∧ ND w' (fun k => w.heap.size ≤ k) x u ∧ Below w.heap.size w w'
  | .err a er => e = .returned (.tuple #[ndZ, .int .i64 (a : Int), .int .i64 (er : Int)]) ∧ Below w.heap.size w w'
theorem t3c_map : ∀ T : List Tk, t3c (T.map fun t => (t.1, tx t.2.1, t.2.2)) = tkc T
  | [] => rfl
  | t :: T => by simp only [List.map_cons, t3c]; rw [t3c_map T]; simp [tkc]
theorem bel_set3 {B rb : Nat} {w w1 : World} (h : Below B w w1) (hb : B ≤ rb) (a b c : Value) : Below B w (((w1.setCell ⟨rb, 0, none⟩ a).setCell ⟨rb, 1, none⟩ b).setCell ⟨rb, 2, none⟩ c) :=
  ((h.setCell (p := ⟨rb, 0, none⟩) hb a).setCell (p := ⟨rb, 1, none⟩) hb b).setCell (p := ⟨rb, 2, none⟩) hb c
/-- the box of the result -/
def RBx (rb : Nat) (W : World) : Prop := W.cell? ⟨rb, 0, none⟩ = some (.int .i64 0) ∧ W.cell? ⟨rb, 1, none⟩ = some (.string ⟨#[]⟩) ∧ W.cell? ⟨rb, 2, none⟩ = some (.slice none 0 0) ∧ ∀ j, W.frozen? ⟨rb, j, none⟩ = false
theorem RBx.be {rb : Nat} {W W' : World} (h : RBx rb W) (hb : Below (rb + 1) W W') : RBx rb W' :=
  ⟨(hb.cell (p := ⟨rb, 0, none⟩) (Nat.lt_succ_self _)).trans h.1, (hb.cell (p := ⟨rb, 1, none⟩) (Nat.lt_succ_self _)).trans h.2.1, (hb.cell (p := ⟨rb, 2, none⟩) (Nat.lt_succ_self _)).trans h.2.2.1, fun j => (hb.frozen (p := ⟨rb, j, none⟩) (Nat.lt_succ_self _)).trans (h.2.2.2 j)⟩
set_option maxRecDepth 100000 in
set_option maxHeartbeats 8000000 in
theorem Parse_any (s : ByteArray) (w : World) (hs : s.size ≤ 140737488351232) (ht : Sh w) (hsg : Sg w) (htb : TBs w) (hE : (tkF (bl s)).2.2 = 0 → EvA (evS s)) :
    Calls Tryz.prog 9 #[.string s] w (ResPs (parF s) w) := by
  obtain ⟨rb, hrb⟩ : ∃ n, w.heap.size = n := ⟨_, rfl⟩
  obtain ⟨w1, hw1⟩ : ∃ W, w.alloc (.cells #[.int .i64 0, .string ⟨#[]⟩, .slice none 0 0] 24) = W := ⟨_, rfl⟩
  have hb1 : Below rb w w1 := by rw [← hw1]; exact (Below.refl _ _).alloc (by omega) _
  have hs1 : w1.heap.size = rb + 1 := by rw [← hw1, ← hrb]; simp
  have hr1 : RBx rb w1 := ⟨by rw [← hw1]; exact cell_new hrb.symm, by rw [← hw1]; exact cell_new hrb.symm, by rw [← hw1]; exact cell_new hrb.symm, fun j => by rw [← hw1]; exact frz_new hrb.symm⟩
  have HW1 := Lib.hid hw1; have HRB := Lib.hid hrb; have HB1 := Lib.hid hb1; have HS1 := Lib.hid hs1; have HR1 := Lib.hid hr1
  have HTB := Lib.hid htb
  have HPF : Hid (parF s = if (tkF (bl s)).2.2 = 0 then (allF (evS s)).bind fun x j => if 200 < dpt x then .err 0 6 else if 44739242 < siz x then .err 0 10 else .ok x j else .err (tkF (bl s)).2.1 (tkF (bl s)).2.2) := Lib.hid rfl
  have hT := Tokens_any s w1 hs (ht.below (by rw [hrb]; exact hb1)) (hsg.below (by rw [hrb]; exact hb1))
  have hvl : (evS s).L.length = (tkF (bl s)).1.length := by simp [evS]
  have hvt : t3c (evS s).L = tkc (tkF (bl s)).1 := t3c_map _
  have hve : (evS s).E = s.size := rfl
  have hEQ := allF_iv (v := evS s)
  generalize parF s = PF at *
  generalize evS s = v at *
  unfold ResTs at hT
  generalize (tkF (bl s)).1 = T at *
  generalize (tkF (bl s)).2.1 = at0 at *
  generalize (tkF (bl s)).2.2 = er0 at *
  have HT := Lib.hid hT; have HVL := Lib.hid hvl; have HVT := Lib.hid hvt; have HVE := Lib.hid hve; have HE := Lib.hid hE; have HEQ := Lib.hid hEQ
  clear hb1 hs1 hr1 hw1 hrb htb hT hvl hvt hve hE hEQ ht hsg hs
  go_enter Tryz.func9, Tryz.ntmps9
  go_wp2_with fail
  rw [HW1.out, HRB.out]
  refine HT.out.mono ?_
  rintro e w2 ⟨ao, c, rfl, ho, hb⟩
  have HO := Lib.hid ho
  have HB2 : Hid (Below (rb + 1) w1 w2) := Lib.hid (by rw [← HS1.out]; exact hb)
  clear ho hb HT
  by_cases h0 : er0 = 0
  · have q0 : ((er0 : Int) != 0) = false := by rw [h0]; rfl
    have HPF0 : Hid (PF = (allF v).bind fun x j => if 200 < dpt x then .err 0 6 else if 44739242 < siz x then .err 0 10 else .ok x j) := Lib.hid (by rw [HPF.out, if_pos h0])
    obtain ⟨g, hg⟩ : ∃ n, w2.heap.size = n := ⟨_, rfl⟩
    obtain ⟨w3, hw3⟩ : ∃ W, w2.alloc (.cells #[.slice ao T.length c, .int .i64 0, .int .i64 (s.size : Int), .int .i64 0] 43) = W := ⟨_, rfl⟩
    have hb3 : Below g w2 w3 := by rw [← hw3, ← hg]; exact (Below.refl _ _).alloc (Nat.le_refl _) _
    have hs3 : w3.heap.size = g + 1 := by rw [← hw3, ← hg]; simp
    have hrg : rb + 1 ≤ g := by have := HB2.out.size; have := HS1.out; omega
    have HW23 : Hid (Below rb w w3) := Lib.hid (HB1.out.trans ((HB2.out.mono (by omega)).trans (hb3.mono (by omega))))
    have hp3 : PB v w3 g 0 0 := by
      refine ⟨ao, c, ?_, ?_, ?_, ?_, fun j => ?_, ?_, Nat.zero_le _, by decide, w, by rw [HRB.out]; omega, by rw [HRB.out, hs3]; omega, HTB.out, by rw [HRB.out]; exact HW23.out⟩
      · rw [← hw3, HVL.out]; exact cell_new hg.symm
      · rw [← hw3]; exact cell_new hg.symm
      · rw [← hw3, HVE.out]; exact cell_new hg.symm
      · rw [← hw3]; exact cell_new hg.symm
      · rw [← hw3]; exact frz_new hg.symm
      · rcases HO.out.shape with ⟨_, _, h3, _⟩ | ⟨tb, cur, rfl, _, h5, _⟩
        · left
          exact List.length_eq_zero_iff.1 (by rw [HVL.out]; exact h3)
        · right
          have htb : tb < g := by rw [← hg]; exact (Array.getElem?_eq_some_iff.1 h5).1
          exact ⟨tb, rfl, htb, fun j u hj => by
            rw [HVT.out] at hj
            rw [hb3.cell (p := ⟨tb, j, none⟩) htb]
            exact HO.out.cellAt hj⟩
    have hA := Lib.hid (HE.out h0)
    have hlen := hA.out.k.len
    have hc := syAll hA hp3
    have hq := HEQ.out hA.out.q
    have HR3 : Hid (RBx rb w3) := Lib.hid ((HR1.out.be HB2.out).be (hb3.mono hrg))
    have HG := Lib.hid hrg
    have HW3 := Lib.hid hw3
    have HS3 := Lib.hid hs3
    have HSG := Lib.hid hg
    obtain ⟨R, hR⟩ : ∃ R, allF v = R := ⟨_, rfl⟩
    rw [hR] at hc hq HPF0
    have HC := Lib.hid hc
    have HLN := Lib.hid hlen
    clear hc hR hw3 hs3 hg hrg hb3 hp3 h0 hA hlen HE HPF HEQ HO HR1
    cases R with
    | err a er =>
      have hne : er ≠ 0 := hq.2.1
      have q1 : ((er : Int) != 0) = true := by rw [bne_iff_ne]; omega
      have HF : Hid (PF = .err a er) := Lib.hid HPF0.out
      clear hne hq HPF0
      go_wp2_with fail
      rw [HW3.out, HSG.out]
      refine HC.out.mono ?_
      rintro e w4 ⟨rfl, hb⟩
      have hr4 : RBx rb w4 := HR3.out.be (gb_below hb (by have := HS3.out; have := HG.out; omega) (by have := HG.out; omega))
      have HB4 : Hid (Below rb w w4) := Lib.hid (HW23.out.trans (gb_below hb (by have := HS3.out; have := HG.out; omega) (by have := HG.out; omega)))
      obtain ⟨r0, r1, r2, rf⟩ := hr4
      clear hb HC
      go_wp2
      refine bodyPost_ret (v := .tuple #[ndZ, .int .i64 (a : Int), .int .i64 (er : Int)]) (by simp [results, Tryz.results9, go_sem, r0, r1, r2]) rfl ?_
      rw [HF.out]
      exact ⟨rfl, by rw [HRB.out]; exact bel_set3 HB4.out (Nat.le_refl _) _ _ _⟩
    | ok x j =>
      have hdx : dpt x ≤ 400000 := by have h1 : P1 v 0 0 x j := hq; have h2 := h1.2.2.1; have h3 := h1.2.1; have := HLN.out; omega
      have hq0 : (((0 : Nat) : Int) != 0) = false := rfl
      have HDX := Lib.hid hdx
      have HF : Hid (PF = if 200 < dpt x then .err 0 6 else if 44739242 < siz x then .err 0 10 else .ok x j) := Lib.hid HPF0.out
      clear hq HPF0 hdx
      go_wp2_with fail
      rw [HW3.out, HSG.out]
      refine HC.out.mono ?_
      rintro e w4 ⟨b, rfl, hx, hb⟩
      have hr4 : RBx rb w4 := HR3.out.be (gb_below hb (by have := HS3.out; have := HG.out; omega) (by have := HG.out; omega))
      have HB4 : Hid (Below rb w w4) := Lib.hid (HW23.out.trans (gb_below hb (by have := HS3.out; have := HG.out; omega) (by have := HG.out; omega)))
      have HSZ4 : Hid (rb + 1 ≤ w4.heap.size) := Lib.hid (by have := hb.size; have := HS3.out; have := HG.out; omega)
      obtain ⟨r0, r1, r2, rf⟩ := hr4
      have HR4 : Hid (RBx rb w4) := Lib.hid ⟨r0, r1, r2, rf⟩
      obtain ⟨d3, d4⟩ := hx.d
      have HX := Lib.hid hx
      clear hb HC hx
      by_cases hd : 200 < dpt x
      · have hdI : (200 : Int) < (dpt x : Int) := by omega
        have HFE : Hid (PF = .err 0 6) := Lib.hid (by rw [HF.out, if_pos hd])
        clear hd d4
        go_wp2
        refine bodyPost_ret (v := .tuple #[ndZ, .int .i64 0, .int .i64 6]) (by simp [results, Tryz.results9, go_sem, r0, r1, r2]) rfl ?_
        rw [HFE.out]
        exact ⟨rfl, by rw [HRB.out]; exact bel_set3 HB4.out (Nat.le_refl _) _ _ _⟩
      have hdI : ¬ (200 : Int) < (dpt x : Int) := by omega
      by_cases hz : 44739242 < siz x
      · have d4' : w4.cell? ⟨b, 4, none⟩ = some (.int .i64 44739243) := by rw [d4, show min (siz x) 44739243 = 44739243 by omega]; rfl
        have HFE : Hid (PF = .err 0 10) := Lib.hid (by rw [HF.out, if_neg hd, if_pos hz])
        clear hd hz d4
        go_wp2
        refine bodyPost_ret (v := .tuple #[ndZ, .int .i64 0, .int .i64 10]) (by simp [results, Tryz.results9, go_sem, r0, r1, r2]) rfl ?_
        rw [HFE.out]
        exact ⟨rfl, by rw [HRB.out]; exact bel_set3 HB4.out (Nat.le_refl _) _ _ _⟩
      · have d4' : w4.cell? ⟨b, 4, none⟩ = some (.int .i64 (siz x : Int)) := by rw [d4, show min (siz x) 44739243 = siz x by omega]
        have hzI : ¬ (44739242 : Int) < (siz x : Int) := by omega
        have HFE : Hid (PF = .ok x j) := Lib.hid (by rw [HF.out, if_neg hd, if_neg hz])
        have HN : Hid (Calls Tryz.prog 16 #[ptr b] w4 fun e w' => ∃ (z : Int) (t : ByteArray) (ao' : Option Addr) (n' c' : Nat), e = .returned (.agg #[.int .i64 z, .string t, .slice ao' n' c']) ∧ ND w' (fun m => w4.heap.size ≤ m) x (.agg #[.int .i64 z, .string t, .slice ao' n' c']) ∧ Below w4.heap.size w4 w') := Lib.hid (by
          refine (syNode (dpt x) x w4 b _ (Nat.le_refl _) (by omega) HX.out).mono ?_
          rintro e w' ⟨u, rfl, hn, hb⟩
          obtain ⟨k', s', js⟩ := x
          have hn' := hn
          unfold ND at hn'
          obtain ⟨ao', cap', rfl, _⟩ := hn'
          exact ⟨_, _, _, _, _, rfl, hn, hb⟩)
        clear hd hz d4
        go_wp2_with fail
        refine HN.out.mono ?_
        rintro e w5 ⟨z, t, ao', n', c', rfl, hn, hb⟩
        have hr5 : RBx rb w5 := HR4.out.be (hb.mono HSZ4.out)
        obtain ⟨r0, r1, r2, rf⟩ := hr5
        have HB5 : Hid (Below rb w w5) := Lib.hid (HB4.out.trans (hb.mono (by have := HSZ4.out; omega)))
        have HN5 := Lib.hid hn
        clear hb hn HN
        go_wp2
        refine bodyPost_ret (v := .tuple #[.agg #[.int .i64 z, .string t, .slice ao' n' c'], .int .i64 0, .int .i64 0]) (by simp [results, Tryz.results9, go_sem, r0, r1, r2]) rfl ?_
        rw [HFE.out]
        refine ⟨_, rfl, ND.to (fun m hm hs => ⟨?_, by have := HSZ4.out; have := HRB.out; omega⟩) HN5.out, by rw [HRB.out]; exact bel_set3 HB5.out (Nat.le_refl _) _ _ _⟩
        have hmr : m ≠ rb := by have := HSZ4.out; omega
        rw [Below.heap_setCell _ _ _ _ hmr, Below.heap_setCell _ _ _ _ hmr, Below.heap_setCell _ _ _ _ hmr]
  · have q0 : ((er0 : Int) != 0) = true := by rw [bne_iff_ne]; omega
    have hr2 := HR1.out.be HB2.out
    obtain ⟨r0, r1, r2, rf⟩ := hr2
    have HF : Hid (PF = .err at0 er0) := Lib.hid (by rw [HPF.out, if_neg h0])
    clear h0
    go_wp2
    refine bodyPost_ret (v := .tuple #[ndZ, .int .i64 (at0 : Int), .int .i64 (er0 : Int)]) (by simp [results, Tryz.results9, go_sem, r0, r1, r2]) rfl ?_
    rw [HF.out]
    exact ⟨rfl, by rw [HRB.out]; exact bel_set3 (HB1.out.trans (HB2.out.mono (by omega))) (Nat.le_refl _) _ _ _⟩
end Go.Proofs.YtpgiljibicigeaaGreatDoor

/- lex: the statements' common head; the document's Name and Word. -/
namespace Go.Proofs.YtpgiljibicigeaaGreatDoor
open Go.RowKit UM QM LX

theorem lxCell {W w' : World} (h : Below W.heap.size W w') {p : Addr} {v : Value} (hc : W.cell? p = some v) : w'.cell? p = some v := by rw [h.cell (lt_of_cell hc)]; exact hc
end Go.Proofs.YtpgiljibicigeaaGreatDoor

/- lex: tokens rise, and texts are shut as they were opened. Nothing of the program. -/
namespace Go.Proofs.YtpgiljibicigeaaGreatDoor.LX
open Go.Proofs.YtpgiljibicigeaaGreatDoor UM QM

def ckT (n : Nat) : Nat → List Nat → List Tk → Bool
  | _, st, [] => st.isEmpty
  | lo, st, (k, x, a) :: L =>
    decide (lo ≤ a ∧ a < n ∧ 1 ≤ k ∧ k ≤ 11) &&
    (if k = 7 ∨ k = 9 then ckT n (a + 1) (k :: st) L
     else if k = 11 then decide (st.head? = some 7) && ckT n (a + 1) st.tail L
     else if k = 10 then decide (st.head? = some 9) && ckT n (a + 1) st.tail L
     else if k = 8 then decide (st.head? = some 7 ∧ x ≠ []) && ckT n (a + 1) st L
     else ckT n (a + 1) st L)
def stk : List Nat → List Nat
  | [] => []
  | c :: t => if c = 1 then 7 :: stk t else if c = 2 then 9 :: stk t else stk t
inductive Wo : List Nat → Prop
  | nil : Wo []
  | one {t : List Nat} (h : Wo t) : Wo (1 :: t)
  | two {t : List Nat} (h : Wo (1 :: t)) : Wo (2 :: 1 :: t)
  | three {t : List Nat} (h : Wo t) : Wo (3 :: t)
theorem Wo.none {op : List Nat} (h : Wo op) : op.count 1 = 0 → stk op = [] := by
  induction h with
  | nil => intro _; rfl
  | one _ _ => intro h; rw [List.count_cons_self] at h; omega
  | two _ _ => intro h; rw [List.count_cons_of_ne (by decide), List.count_cons_self] at h; omega
  | three _ ih => intro h; rw [List.count_cons_of_ne (by decide)] at h; exact ih h
theorem encL_ne {ps : List Nat} (h : ps ≠ []) : encL ps ≠ [] := by
  cases ps with
  | nil => exact absurd rfl h
  | cons p t =>
    rw [encL_cons]
    intro he
    have h1 := (en_pos p).1
    have h2 := enc_len p
    have := congrArg List.length he
    rw [List.length_append, List.length_nil] at this
    omega
theorem pc_spec : ∀ (f : Nat) (r : List Nat), ((pcR f r).1 = 0 → (pcR f r).2.1 + 1 ≤ r.length) ∧ ((pcR f r).1 = 1 → (pcR f r).2.1 + 2 ≤ r.length) ∧ (pcR f r).2.1 ≤ r.length ∧ ((pcR f r).1 ≤ 1 → 0 < (pcR f r).2.1 → (pcR f r).2.2 ≠ [])
  | 0, r => ⟨fun h => by simp [pcR] at h, fun h => by simp [pcR] at h, by simp [pcR], fun h => by simp [pcR] at h⟩
  | f + 1, [] => ⟨fun h => by simp [pcR] at h, fun h => by simp [pcR] at h, by simp [pcR], fun h => by simp [pcR] at h⟩
  | f + 1, c :: t => by
    simp only [pcR]
    by_cases h34 : c = 34
    · rw [if_pos h34]; exact ⟨fun _ => by simp, fun h => by simp at h, by simp, fun _ h => by simp at h⟩
    rw [if_neg h34]
    by_cases h40 : c = 92 ∧ t.head? = some 40
    · rw [if_pos h40]
      refine ⟨fun h => by simp at h, fun _ => ?_, by simp, fun _ h => by simp at h⟩
      cases t with
      | nil => simp at h40
      | cons a u => simp
    rw [if_neg h40]
    by_cases h92 : c = 92
    · rw [if_pos h92]
      have h40' : ((c :: t).drop 1).head? ≠ some 40 := fun h => h40 ⟨h92, h⟩
      have hh : (c :: t).head? = some 92 := by rw [h92]; rfl
      have hrow := rdR_row (c :: t) hh h40'
      have hrl : (rowR (c :: t)).length ≤ (c :: t).length := by unfold rowR; rw [List.length_take]; omega
      by_cases he : (rdR (c :: t)).2.2 = 0
      · rw [if_pos he]
        have ih := pc_spec f ((c :: t).drop (rowR (c :: t)).length)
        rw [List.length_drop] at ih
        unfold app
        simp only
        refine ⟨fun h => by have := ih.1 h; omega, fun h => by have := ih.2.1 h; omega, by have := ih.2.2.1; omega, fun _ _ => ?_⟩
        have := encL_ne (ps := (rdR (c :: t)).1.map Int.toNat) (by simpa using hrow.2.2.2.2.2.1 he)
        simp [this]
      · rw [if_neg he]
        split
        · exact ⟨fun h => by simp at h, fun h => by simp at h, Nat.le_refl _, fun h => by simp at h⟩
        · rename_i hk
          refine ⟨fun h => by simp at h, fun h => by simp at h, ?_, fun h => by simp at h⟩
          have hlas : ∀ l : List Nat, lasF l ≤ l.length := by
            intro l
            induction l with
            | nil => exact Nat.le_refl _
            | cons a u ih =>
              simp only [lasF, List.length_cons]
              by_cases z1 : a = 92
              · rw [if_pos z1]; split <;> omega
              · rw [if_neg z1]; omega
          have := hlas ((c :: t).take ((rdR (c :: t)).2.1 - 1))
          rw [List.length_take] at this
          simp only; omega
    · rw [if_neg h92]
      have ih := pc_spec f t
      unfold app
      simp only [List.length_cons]
      exact ⟨fun h => by have := ih.1 h; omega, fun h => by have := ih.2.1 h; omega, by have := ih.2.2.1; omega, fun _ _ => by simp⟩
theorem tk_eff (op : List Nat) (c : Nat) (t : List Nat) (h : (tkR op (c :: t)).1 = 0) :
    1 ≤ (tkR op (c :: t)).2.2.2.1 ∧ (tkR op (c :: t)).2.2.2.1 ≤ (c :: t).length ∧ (((tkR op (c :: t)).2.1 = 7 ∧ (tkR op (c :: t)).2.2.2.2 = 1 :: op) ∨ ((tkR op (c :: t)).2.1 = 10 ∧ op = 2 :: (tkR op (c :: t)).2.2.2.2) ∨ (1 ≤ (tkR op (c :: t)).2.1 ∧ (tkR op (c :: t)).2.1 ≤ 6 ∧ stk (tkR op (c :: t)).2.2.2.2 = stk op ∧ (Wo op → Wo (tkR op (c :: t)).2.2.2.2))) := by
  simp only [tkR] at h ⊢
  by_cases q1 : isLt c = true
  · rw [if_pos q1]; exact ⟨nmR_pos q1, nmR_le (c :: t), .inr (.inr ⟨show 1 ≤ 2 by decide, show 2 ≤ 6 by decide, rfl, fun h => h⟩)⟩
  rw [if_neg q1] at h ⊢
  by_cases q2 : isDg c = true
  · rw [if_pos q2]; exact ⟨nuR_pos q2, nuR_le (c :: t), .inr (.inr ⟨show 1 ≤ 1 by decide, show 1 ≤ 6 by decide, rfl, fun h => h⟩)⟩
  rw [if_neg q2] at h ⊢
  have hn := nmR_le t
  by_cases q3 : c = 46 ∧ 0 < nmR t
  · rw [if_pos q3]; exact ⟨by simp, by simp; omega, .inr (.inr ⟨show 1 ≤ 3 by decide, show 3 ≤ 6 by decide, rfl, fun h => h⟩)⟩
  rw [if_neg q3] at h ⊢
  by_cases q4 : c = 36 ∧ 0 < nmR t
  · rw [if_pos q4]; exact ⟨by simp, by simp; omega, .inr (.inr ⟨show 1 ≤ 4 by decide, show 4 ≤ 6 by decide, rfl, fun h => h⟩)⟩
  rw [if_neg q4] at h ⊢
  by_cases q5 : c = 64 ∧ 0 < nmR t
  · rw [if_pos q5]; exact ⟨by simp, by simp; omega, .inr (.inr ⟨show 1 ≤ 5 by decide, show 5 ≤ 6 by decide, rfl, fun h => h⟩)⟩
  rw [if_neg q5] at h ⊢
  by_cases q6 : c = 34
  · rw [if_pos q6] at h ⊢
    by_cases q7 : op.count 1 = 50
    · rw [if_pos q7] at h; cases h
    · rw [if_neg q7]; exact ⟨Nat.le_refl _, by simp, .inl ⟨rfl, rfl⟩⟩
  rw [if_neg q6] at h ⊢
  by_cases hS : sgnR (c :: t) = []
  · rw [if_pos hS] at h; cases h
  rw [if_neg hS] at h ⊢
  have hpl := (pfx_le (fsF_mem hS).2).1
  have hsl : 1 ≤ (sgnR (c :: t)).length := List.length_pos_iff.2 hS
  by_cases p1 : sgnR (c :: t) = [41] ∧ inn op = 2
  · rw [if_pos p1]
    refine ⟨Nat.le_refl _, by simp, .inr (.inl ⟨rfl, ?_⟩)⟩
    cases op with
    | nil => simp [inn] at p1
    | cons a u => have : a = 2 := p1.2; rw [this]; rfl
  rw [if_neg p1]
  by_cases p2 : sgnR (c :: t) = [41] ∧ inn op = 3
  · rw [if_pos p2]
    obtain ⟨u, rfl⟩ : ∃ u, op = 3 :: u := by
      cases op with
      | nil => simp [inn] at p2
      | cons a u => exact ⟨u, by rw [show a = 3 from p2.2]⟩
    exact ⟨Nat.le_refl _, by simp, .inr (.inr ⟨show 1 ≤ 6 by decide, show 6 ≤ 6 by decide, by simp [stk], fun h => by cases h; assumption⟩)⟩
  rw [if_neg p2]
  by_cases p3 : sgnR (c :: t) = [40]
  · rw [if_pos p3]; exact ⟨Nat.le_refl _, by simp, .inr (.inr ⟨show 1 ≤ 6 by decide, show 6 ≤ 6 by decide, rfl, Wo.three⟩)⟩
  rw [if_neg p3]
  exact ⟨hsl, hpl, .inr (.inr ⟨show 1 ≤ 6 by decide, show 6 ≤ 6 by decide, rfl, fun h => h⟩)⟩
theorem pre_ok {l : List Tk} {q : List Tk × Nat × Nat} {L : List Tk} {a : Nat} (h : pre l q = (L, a, 0)) : ∃ L2, q = (L2, a, 0) ∧ L = l ++ L2 := by
  unfold pre at h
  obtain ⟨h1, h2⟩ := Prod.mk.inj h
  exact ⟨q.1, Prod.ext rfl h2, h1.symm⟩
theorem lx_ck : ∀ (f : Nat) (op : List Nat) (p : Nat) (r : List Nat) (lo : Nat) (L : List Tk) (a : Nat), Wo op → lo ≤ p → lxR f op p r = (L, a, 0) → ckT (p + r.length) lo (stk op) L = true
  | 0, _, _, _, _, _, _, _, _, h => by simp [lxR] at h
  | f + 1, op, p, r, lo, L, a, hw, hlo, h => by
    have hsk := skR_le op r
    simp only [lxR] at h
    by_cases h1 : r.drop (skR op r) = []
    · rw [if_pos h1] at h
      obtain ⟨h2, h3⟩ := Prod.mk.inj h
      have h4 : (if 0 < op.count 1 then 5 else 0) = 0 := (Prod.mk.inj h3).2
      have h5 : op.count 1 = 0 := by
        by_cases hc : 0 < op.count 1
        · rw [if_pos hc] at h4; cases h4
        · omega
      rw [← h2, hw.none h5]; rfl
    rw [if_neg h1] at h
    have hlen : skR op r < r.length := by
      rcases Nat.lt_or_ge (skR op r) r.length with h' | h'
      · exact h'
      · exact absurd (List.drop_of_length_le h') h1
    by_cases hi : inn op = 1
    · rw [if_pos hi] at h
      obtain ⟨t, rfl⟩ : ∃ t, op = 1 :: t := by
        cases op with
        | nil => simp [inn] at hi
        | cons x t => exact ⟨t, by rw [show x = 1 from hi]⟩
      have hwt : Wo t := by cases hw; assumption
      have hsp := pc_spec r.length r
      generalize pcR r.length r = q at h hsp
      have key : ∀ (k' d : Nat) (rest : List Tk) (st' : List Nat), q.1 ≤ 1 → q.2.1 < r.length → (k' = 11 ∧ st' = stk t ∨ k' = 9 ∧ st' = 9 :: 7 :: stk t) → ckT (p + r.length) (p + q.2.1 + 1) st' rest = true → ckT (p + r.length) lo (stk (1 :: t)) (txR p q.2.1 q.2.2 ++ [(k', [], p + q.2.1)] ++ rest) = true := by
        intro k' d rest st' hc hn hk hrest
        have hone : ∀ lo2, lo2 ≤ p + q.2.1 → ckT (p + r.length) lo2 (7 :: stk t) ((k', [], p + q.2.1) :: rest) = true := by
          intro lo2 hl2
          simp only [ckT, Bool.and_eq_true, decide_eq_true_eq]
          rcases hk with ⟨rfl, rfl⟩ | ⟨rfl, rfl⟩
          · refine ⟨by omega, ?_⟩
            rw [if_neg (by decide), if_pos rfl]
            simp only [List.head?_cons, List.tail_cons, decide_true, Bool.true_and]
            exact hrest
          · refine ⟨by omega, ?_⟩
            rw [if_pos (.inr rfl)]
            exact hrest
        unfold txR
        show ckT (p + r.length) lo (7 :: stk t) _ = true
        by_cases hn0 : 0 < q.2.1
        · rw [if_pos hn0]
          simp only [List.cons_append, List.nil_append]
          rw [ckT]
          rw [Bool.and_eq_true]
          refine ⟨decide_eq_true (by omega), ?_⟩
          rw [if_neg (by decide), if_neg (by decide), if_neg (by decide), if_pos rfl, Bool.and_eq_true]
          exact ⟨decide_eq_true ⟨rfl, hsp.2.2.2 hc hn0⟩, hone _ (by omega)⟩
        · rw [if_neg hn0]
          simp only [List.nil_append, List.cons_append]
          exact hone _ (by omega)
      by_cases h0 : q.1 = 0
      · rw [if_pos h0] at h
        obtain ⟨L2, hL2, rfl⟩ := pre_ok h
        have hb := hsp.1 h0
        have ih := lx_ck f t (p + q.2.1 + 1) (r.drop (q.2.1 + 1)) (p + q.2.1 + 1) L2 a hwt (Nat.le_refl _) hL2
        rw [List.length_drop, show p + q.2.1 + 1 + (r.length - (q.2.1 + 1)) = p + r.length by omega] at ih
        exact key 11 0 L2 _ (by omega) (by omega) (.inl ⟨rfl, rfl⟩) ih
      rw [if_neg h0] at h
      by_cases h1' : q.1 = 1
      · rw [if_pos h1'] at h
        obtain ⟨L2, hL2, rfl⟩ := pre_ok h
        have hb := hsp.2.1 h1'
        have ih := lx_ck f (2 :: 1 :: t) (p + q.2.1 + 2) (r.drop (q.2.1 + 2)) (p + q.2.1 + 1) L2 a (Wo.two hw) (by omega) hL2
        rw [List.length_drop, show p + q.2.1 + 2 + (r.length - (q.2.1 + 2)) = p + r.length by omega] at ih
        exact key 9 0 L2 _ (by omega) (by omega) (.inr ⟨rfl, rfl⟩) ih
      rw [if_neg h1'] at h
      by_cases h5 : q.1 = 5
      · rw [if_pos h5] at h
        have := (Prod.mk.inj (Prod.mk.inj h).2).2
        cases this
      · rw [if_neg h5] at h
        have := (Prod.mk.inj (Prod.mk.inj h).2).2
        cases this
    · rw [if_neg hi] at h
      obtain ⟨c, t, hct⟩ : ∃ c t, r.drop (skR op r) = c :: t := by
        cases hq : r.drop (skR op r) with
        | nil => exact absurd hq h1
        | cons c t => exact ⟨c, t, rfl⟩
      have hcl : (c :: t).length = r.length - skR op r := by rw [← hct, List.length_drop]
      have heff := tk_eff op c t
      rw [hct] at h
      generalize tkR op (c :: t) = q at h heff
      by_cases h0 : q.1 = 0
      · rw [if_pos h0] at h
        obtain ⟨L2, hL2, rfl⟩ := pre_ok h
        obtain ⟨hn1, hn2, hk⟩ := heff h0
        rw [hcl] at hn2
        have ihl := fun hw' => lx_ck f q.2.2.2.2 (p + skR op r + q.2.2.2.1) (r.drop (skR op r + q.2.2.2.1)) (p + skR op r + 1) L2 a hw' (by omega) hL2
        rw [List.length_drop, show p + skR op r + q.2.2.2.1 + (r.length - (skR op r + q.2.2.2.1)) = p + r.length by omega] at ihl
        simp only [List.cons_append, List.nil_append]
        rw [ckT, Bool.and_eq_true]
        rcases hk with ⟨k7, ho⟩ | ⟨k10, ho⟩ | ⟨k1, k6, ho, hwo⟩
        · refine ⟨decide_eq_true (by omega), ?_⟩
          rw [if_pos (.inl k7)]
          have := ihl (by rw [ho]; exact Wo.one hw)
          rw [ho] at this
          rw [k7]; exact this
        · refine ⟨decide_eq_true (by omega), ?_⟩
          rw [if_neg (by omega), if_neg (by omega), if_pos k10, Bool.and_eq_true]
          have hw' : Wo q.2.2.2.2 := by
            rw [ho] at hw
            generalize q.2.2.2.2 = o at hw
            cases hw; assumption
          have hs : stk op = 9 :: stk q.2.2.2.2 := by
            rw [ho]; simp [stk]
          rw [hs]
          exact ⟨rfl, ihl hw'⟩
        · refine ⟨decide_eq_true (by omega), ?_⟩
          rw [if_neg (by omega), if_neg (by omega), if_neg (by omega), if_neg (by omega), ← ho]
          exact ihl (hwo hw)
      · rw [if_neg h0] at h
        have := (Prod.mk.inj (Prod.mk.inj h).2).2
        exact absurd this h0
theorem lx_at : ∀ (f : Nat) (op : List Nat) (p : Nat) (r : List Nat), (lxR f op p r).2.1 ≤ p + r.length
  | 0, _, _, _ => by simp [lxR]
  | f + 1, op, p, r => by
    have hsk := skR_le op r
    simp only [lxR]
    by_cases h1 : r.drop (skR op r) = []
    · rw [if_pos h1]; exact Nat.le_refl _
    rw [if_neg h1]
    have hpre : ∀ l q, (pre l q).2.1 = q.2.1 := fun _ _ => rfl
    by_cases hi : inn op = 1
    · rw [if_pos hi]
      have hsp := pc_spec r.length r
      generalize pcR r.length r = q at hsp ⊢
      split
      · rename_i h0
        have ih := lx_at f op.tail (p + q.2.1 + 1) (r.drop (q.2.1 + 1))
        have := hsp.1 h0
        rw [List.length_drop] at ih
        rw [hpre]; omega
      split
      · rename_i _ h0
        have ih := lx_at f (2 :: op) (p + q.2.1 + 2) (r.drop (q.2.1 + 2))
        have := hsp.2.1 h0
        rw [List.length_drop] at ih
        rw [hpre]; omega
      split
      · exact Nat.le_refl _
      · have := hsp.2.2.1; simp only; omega
    · rw [if_neg hi]
      obtain ⟨c, t, hct⟩ : ∃ c t, r.drop (skR op r) = c :: t := by
        cases hq : r.drop (skR op r) with
        | nil => exact absurd hq h1
        | cons c t => exact ⟨c, t, rfl⟩
      have hcl : (c :: t).length = r.length - skR op r := by rw [← hct, List.length_drop]
      have hcp : 0 < (c :: t).length := by simp
      rw [hct]
      have heff := tk_eff op c t
      generalize tkR op (c :: t) = q at heff ⊢
      split
      · rename_i h0
        obtain ⟨_, hn2, _⟩ := heff h0
        have ih := lx_at f q.2.2.2.2 (p + skR op r + q.2.2.2.1) (r.drop (skR op r + q.2.2.2.1))
        rw [List.length_drop] at ih
        rw [hpre]; omega
      · simp only; omega
end Go.Proofs.YtpgiljibicigeaaGreatDoor.LX
