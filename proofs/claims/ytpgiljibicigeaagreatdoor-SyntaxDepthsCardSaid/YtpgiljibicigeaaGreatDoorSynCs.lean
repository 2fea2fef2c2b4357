/- syntax: skip, need, take, takeOwn walked. -/
import Derived.Test.YtpgiljibicigeaaGreatDoorSynAs
import Derived.Deep.Cut
import Derived.Deep.DeepCutAuto
set_option linter.unusedVariables false
set_option linter.unusedSimpArgs false
namespace Go.Proofs.YtpgiljibicigeaaGreatDoor
open Go.RowKit SX

/-- what the parser gives up with -/
def pan (a e : Nat) : List PanicEntry := [{ v := .iface 58 (.agg #[.int .i64 (a : Int), .int .i64 (e : Int)]), recovered := false }]
/-- what a rule tells: its value, and the box behind it, else the fault -/
def Out {α : Type} (v : Ev) (g pp : Nat) (w : World) (R : Rs α) (V : α → Value → World → Prop) (e : Ending) (w' : World) : Prop :=
  match R with
  | .ok x j => ∃ u, e = .returned u ∧ V x u w' ∧ PB v w' g j pp ∧ w.grownBy w' (some g)
  | .err a er => e = .panicked (pan a er) ∧ w.grownBy w' (some g)
theorem wd_below {w W : World} (h : Wd w) (hb : Below w.heap.size w W) : Wd W := fun i hi => by rw [hb.cell (lt_of_cell (h i hi))]; exact h i hi
def VU : Unit → Value → World → Prop := fun _ u _ => u = .tuple #[]
def VS : ByteArray → Value → World → Prop := fun s u _ => u = .string s
theorem out_cases {α : Type} {v : Ev} {g pp : Nat} {w : World} {R : Rs α} {V : α → Value → World → Prop} {e : Ending} {w' : World} (h : Out v g pp w R V e w') : (∃ x j u, R = .ok x j ∧ e = .returned u ∧ V x u w' ∧ PB v w' g j pp ∧ w.grownBy w' (some g)) ∨ (∃ a er, R = .err a er ∧ e = .panicked (pan a er) ∧ w.grownBy w' (some g)) := by
  cases R with
  | ok x j =>
    obtain ⟨u, h1, h2, h3, h4⟩ := h
    exact .inl ⟨x, j, u, rfl, h1, h2, h3, h4⟩
  | err a er => exact .inr ⟨a, er, rfl, h.1, h.2⟩
theorem gbOfB {w w' : World} {g : Nat} (h : Below w.heap.size w w') : w.grownBy w' (some g) := gb_of_below h
set_option maxRecDepth 100000 in
set_option maxHeartbeats 4000000 in
theorem sySkipYes {v : Ev} (hE : EvK v) {w : World} {g i pp : Nat} (h : PB v w g i pp) {S : ByteArray} (hS : isS v i S = true) :
    Calls Tryz.prog 37 #[.pointer (some ⟨g, 0, none⟩), .string S] w fun e w' => e = .returned (.bool true) ∧ PB v w' g (i + 1) pp ∧ w.grownBy w' (some g) := by
  have HC := Lib.hid (syIs hE h S)
  rw [hS] at HC
  have hi : i < v.L.length := by
    rcases Nat.lt_or_ge i v.L.length with h' | h'
    · exact h'
    · unfold isS at hS; rw [tkn_no h'] at hS; simp [isT] at hS
  have hl := hE.len
  have HP := Lib.hid (fun W (hb : Below w.heap.size w W) => h.below hb)
  have HI := Lib.hid hi
  have hib : (i : Int) < 200000 := by omega
  clear h hE hS hi hl
  go_enter Tryz.func37, Tryz.ntmps37
  go_wp2_with fail
  refine HC.out.mono ?_
  rintro e w1 ⟨rfl, hb⟩
  obtain ⟨ao, cap, hp⟩ := HP.out w1 hb
  have c1 := hp.c1; have fz := hp.fz
  have HQ := Lib.hid hp
  have HB := Lib.hid hb
  have hg := hp.lt
  clear hp hb HC HP
  go_wp2
  go_ret
  exact ⟨rfl, ⟨ao, cap, HQ.out.step HI.out (by omega)⟩, gb_set (gbOfB HB.out) _ _⟩
set_option maxRecDepth 100000 in
set_option maxHeartbeats 4000000 in
theorem sySkipNo {v : Ev} (hE : EvK v) {w : World} {g i pp : Nat} (h : PB v w g i pp) {S : ByteArray} (hS : isS v i S = false) :
    Calls Tryz.prog 37 #[.pointer (some ⟨g, 0, none⟩), .string S] w fun e w' => e = .returned (.bool false) ∧ PB v w' g i pp ∧ w.grownBy w' (some g) := by
  have HC := Lib.hid (syIs hE h S)
  rw [hS] at HC
  have HP := Lib.hid (fun W (hb : Below w.heap.size w W) => h.below hb)
  clear h hE hS
  go_enter Tryz.func37, Tryz.ntmps37
  go_wp2_with fail
  refine HC.out.mono ?_
  rintro e w1 ⟨rfl, hb⟩
  have HB := Lib.hid hb
  clear hb HC
  go_wp2
  go_ret
  exact ⟨rfl, HP.out _ HB.out, gbOfB HB.out⟩
set_option maxRecDepth 100000 in
set_option maxHeartbeats 4000000 in
theorem syNeed {v : Ev} (hE : EvK v) {w : World} {g i pp : Nat} (h : PB v w g i pp) (S : ByteArray) :
    Calls Tryz.prog 40 #[.pointer (some ⟨g, 0, none⟩), .string S] w (Out v g pp w (ned v S i) VU) := by
  unfold ned
  cases hS : isS v i S with
  | true =>
    have HC := Lib.hid (sySkipYes hE h hS)
    clear h hE hS
    go_enter Tryz.func40, Tryz.ntmps40
    go_wp2_with fail
    refine HC.out.mono ?_
    rintro e w1 ⟨rfl, hp, hb⟩
    have HP := Lib.hid hp; have HB := Lib.hid hb
    clear hp hb HC
    go_wp2
    refine bodyPost_end (v := .tuple #[]) (by simp [results, Tryz.results40, go_sem]) rfl ?_
    exact ⟨_, rfl, rfl, HP.out, HB.out⟩
  | false =>
    have HC := Lib.hid (sySkipNo hE h hS)
    have HU := Lib.hid (fun W (hp : PB v W g i pp) => syUnfit hE hp)
    rw [if_neg (by decide)]
    unfold unf
    obtain ⟨X, hX⟩ : ∃ X, plc v i = X := ⟨_, rfl⟩
    obtain ⟨Y, hY⟩ : ∃ Y, (if i = v.L.length then 5 else 2 : Nat) = Y := ⟨_, rfl⟩
    rw [hX, hY] at HU ⊢
    clear h hE hS hX hY
    go_enter Tryz.func40, Tryz.ntmps40
    go_wp2_with fail
    refine HC.out.mono ?_
    rintro e w1 ⟨rfl, hp, hb⟩
    have HU2 := Lib.hid (HU.out w1 hp)
    have HB := Lib.hid hb
    clear hp hb HC HU
    go_wp2_with fail
    refine HU2.out.mono ?_
    rintro e w2 ⟨rfl, hb⟩
    have HB2 : Hid (w.grownBy w2 (some g)) := Lib.hid (gb_trans HB.out (gbOfB hb))
    clear hb HU2 HB
    go_wp2
    exact ⟨rfl, rfl, HB2.out⟩
set_option maxRecDepth 100000 in
set_option maxHeartbeats 4000000 in
theorem syTake {v : Ev} (hE : EvK v) {w : World} {g i pp : Nat} (h : PB v w g i pp) (K : Nat) (hK : 1 ≤ K) :
    Calls Tryz.prog 39 #[.pointer (some ⟨g, 0, none⟩), .int .i64 (K : Int)] w (Out v g pp w (tak v K i) VS) := by
  unfold tak
  have HC := Lib.hid (syNext hE h)
  rw [show nxV (tkn v i) = .agg #[.int .i64 ((tkn v i).1 : Int), .string (tkn v i).2.1, .int .i64 ((tkn v i).2.2 : Int)] from rfl] at HC
  have hl := hE.len
  by_cases hk : (tkn v i).1 = K
  · rw [if_pos hk]
    rw [hk] at HC
    have hi : i < v.L.length := by
      rcases Nat.lt_or_ge i v.L.length with h' | h'
      · exact h'
      · rw [tkn_no h'] at hk
        have : (0 : Nat) = K := hk
        omega
    generalize (tkn v i).2.1 = s at *
    generalize (tkn v i).2.2 = a at *
    have HP := Lib.hid (fun W (hb : Below w.heap.size w W) => h.below hb)
    have HI := Lib.hid hi
    have hib : (i : Int) < 200000 := by omega
    have hgw := h.lt
    clear h hE hk hi hl
    go_enter Tryz.func39, Tryz.ntmps39
    go_wp2_with fail
    refine HC.out.mono ?_
    rintro e w1 ⟨rfl, hb⟩
    obtain ⟨ao, cap, hp⟩ := HP.out w1 hb
    have HB := Lib.hid hb
    have hgs : g < w1.heap.size := hp.lt
    have c1 := hp.c1; have fz := hp.fz
    have HQ : Hid (∀ (n : Int) (o : Obj), n = ((i + 1 : Nat) : Int) → PB v ((w1.setCell ⟨g, 1, none⟩ (.int .i64 n)).alloc o) g (i + 1) pp) := Lib.hid (fun n o hn => ⟨ao, cap, (hp.step HI.out hn).below ((Below.refl _ _).alloc (Nat.le_refl _) _)⟩)
    have HB2 : Hid (∀ (u : Value) (o : Obj), w.grownBy ((w1.setCell ⟨g, 1, none⟩ u).alloc o) (some g)) := Lib.hid (fun u o => gb_trans (gb_set (gbOfB hb) 1 u) (gbOfB ((Below.refl _ _).alloc (Nat.le_refl _) _)))
    have n1 : ¬ g = w1.heap.size := by omega
    have n2 : ¬ w1.heap.size = g := by omega
    clear hb HC hp HB HP
    go_wp2
    go_ret
    exact ⟨_, rfl, rfl, HQ.out _ _ (by omega), HB2.out _ _⟩
  · rw [if_neg hk]
    unfold unf
    have HU := Lib.hid (fun W (hp : PB v W g i pp) => syUnfit hE hp)
    obtain ⟨X, hX⟩ : ∃ X, plc v i = X := ⟨_, rfl⟩
    obtain ⟨Y, hY⟩ : ∃ Y, (if i = v.L.length then 5 else 2 : Nat) = Y := ⟨_, rfl⟩
    rw [hX, hY] at HU
    rw [hX, hY]
    have e1 : (((tkn v i).1 : Int) != (K : Int)) = true := by rw [bne_iff_ne]; omega
    have e2 : ¬ ((tkn v i).1 : Int) = (K : Int) := by omega
    generalize (tkn v i).1 = k at *
    generalize (tkn v i).2.1 = s at *
    generalize (tkn v i).2.2 = a at *
    have HP := Lib.hid (fun W (hb : Below w.heap.size w W) => h.below hb)
    clear h hE hk hl hX hY
    go_enter Tryz.func39, Tryz.ntmps39
    go_wp2_with fail
    refine HC.out.mono ?_
    rintro e w1 ⟨rfl, hb⟩
    have hb2 : Below w.heap.size w (w1.alloc (.cells #[.int .i64 (k : Int), .string s, .int .i64 (a : Int)] 75)) := hb.alloc hb.size _
    have HU2 := Lib.hid (HU.out _ (HP.out _ hb2))
    have HB2 := Lib.hid hb2
    clear hb hb2 HC HU HP
    go_wp2_with fail
    refine HU2.out.mono ?_
    rintro e w2 ⟨rfl, hb⟩
    have HB3 : Hid (w.grownBy w2 (some g)) := Lib.hid (gb_trans (gbOfB HB2.out) (gbOfB hb))
    clear hb HU2 HB2
    go_wp2
    exact ⟨rfl, rfl, HB3.out⟩
set_option maxRecDepth 100000 in
set_option maxHeartbeats 4000000 in
theorem syTakeOwn {v : Ev} (hE : EvK v) (hw : v.wrd = fun s => wdF (bl s)) {w : World} {g i pp : Nat} (h : PB v w g i pp) :
    Calls Tryz.prog 126 #[.pointer (some ⟨g, 0, none⟩)] w (Out v g pp w (ownF v i) VS) := by
  unfold ownF
  have hWd := h.tb.2.1
  have HC := Lib.hid (syNext hE h)
  rw [show nxV (tkn v i) = .agg #[.int .i64 ((tkn v i).1 : Int), .string (tkn v i).2.1, .int .i64 ((tkn v i).2.2 : Int)] from rfl] at HC
  have HW := Lib.hid (fun W (hb : Below w.heap.size w W) => Word_any (tkn v i).2.1 W (wd_below hWd hb))
  rw [show wdF (bl (tkn v i).2.1) = v.wrd (tkn v i).2.1 by rw [hw]] at HW
  have HT := Lib.hid (fun W (hp : PB v W g i pp) => syTake hE hp 2 (by decide))
  have HU := Lib.hid (fun W (hp : PB v W g i pp) => syUnfit hE hp)
  have HP := Lib.hid (fun W (hb : Below w.heap.size w W) => h.below hb)
  cases hb : v.wrd (tkn v i).2.1 with
  | true =>
    rw [hb] at HW
    rw [if_pos rfl]
    unfold unf
    obtain ⟨X, hX⟩ : ∃ X, plc v i = X := ⟨_, rfl⟩
    obtain ⟨Y, hY⟩ : ∃ Y, (if i = v.L.length then 5 else 2 : Nat) = Y := ⟨_, rfl⟩
    rw [hX, hY] at HU
    rw [hX, hY]
    generalize (tkn v i).1 = k at *
    generalize (tkn v i).2.1 = s at *
    generalize (tkn v i).2.2 = a at *
    have ft := fieldTok1
    clear h hE hb hX hY HT hw hWd
    go_enter Tryz.func126, Tryz.ntmps126
    go_wp2_with fail
    refine HC.out.mono ?_
    rintro e w1 ⟨rfl, hb⟩
    have HW2 := Lib.hid (HW.out _ hb)
    have HU2 := Lib.hid (HU.out _ (HP.out _ hb))
    have HB := Lib.hid hb
    clear hb HC HW HP HU
    go_wp2_with fail
    refine HW2.out.mono ?_
    rintro e w2 ⟨rfl, rfl⟩
    clear HW2
    go_wp2_with fail
    refine HU2.out.mono ?_
    rintro e w2 ⟨rfl, hb⟩
    have HB3 : Hid (w.grownBy w2 (some g)) := Lib.hid (gb_trans (gbOfB HB.out) (gbOfB hb))
    clear hb HU2 HB
    go_wp2
    exact ⟨rfl, rfl, HB3.out⟩
  | false =>
    rw [hb] at HW
    rw [if_neg (by decide)]
    generalize (tkn v i).1 = k at *
    generalize (tkn v i).2.1 = s at *
    generalize (tkn v i).2.2 = a at *
    have ft := fieldTok1
    clear hE hb HU hw hWd
    go_enter Tryz.func126, Tryz.ntmps126
    go_wp2_with fail
    refine HC.out.mono ?_
    rintro e w1 ⟨rfl, hb⟩
    have HW2 := Lib.hid (HW.out _ hb)
    have HT2 := Lib.hid (HT.out _ (HP.out _ hb))
    have HB := Lib.hid hb
    clear hb HC HW HP HT h
    go_wp2_with fail
    refine HW2.out.mono ?_
    rintro e w2 ⟨rfl, rfl⟩
    clear HW2
    go_wp2_with fail
    refine HT2.out.mono ?_
    intro e w2 ho
    clear HT2
    generalize tak v 2 i = R at *
    rcases out_cases ho with ⟨x, j, u, rfl, rfl, hv, hp, hb⟩ | ⟨x, er, rfl, rfl, hb⟩
    · have HO : Hid (Out v g pp w (Rs.ok x j) VS (.returned u) w2) := Lib.hid ⟨u, rfl, hv, hp, gb_trans (gbOfB HB.out) hb⟩
      clear ho hv hp hb HB
      go_wp2
      go_ret
      exact HO.out
    · have HO := Lib.hid (gb_trans (gbOfB HB.out) hb)
      clear ho hb HB
      go_wp2
      exact ⟨rfl, rfl, HO.out⟩
end Go.Proofs.YtpgiljibicigeaaGreatDoor

/- syntax: parts in memory; newPart walked. -/
namespace Go.Proofs.YtpgiljibicigeaaGreatDoor
open Go.RowKit SX

mutual
/-- block b holds the part that stands for a tree; A: what is said of all its blocks -/
def PRA (w : World) (A : Nat → Prop) : Nd → Nat → Prop
  | .mk k s ks, b => A b ∧ w.cell? ⟨b, 0, none⟩ = some (.int .i64 (k : Int)) ∧ w.cell? ⟨b, 1, none⟩ = some (.string s) ∧ (∃ a cap, w.cell? ⟨b, 2, none⟩ = some (.slice a ks.length cap) ∧ PRs w A ks a 0) ∧ w.cell? ⟨b, 3, none⟩ = some (.int .i64 ((dps ks + 1 : Nat) : Int)) ∧ w.cell? ⟨b, 4, none⟩ = some (.int .i64 ((min (szs ks + 1) 44739243 : Nat) : Int))
def PRs (w : World) (A : Nat → Prop) : List Nd → Option Addr → Nat → Prop
  | [], _, _ => True
  | x :: ks, a, j => (∃ ab b, a = some ⟨ab, 0, none⟩ ∧ A ab ∧ w.cell? ⟨ab, j, none⟩ = some (.pointer (some ⟨b, 0, none⟩)) ∧ PRA w A x b) ∧ PRs w A ks a (j + 1)
end
mutual
theorem PRA.to {w w' : World} {A B : Nat → Prop} (h : ∀ k, A k → k < w.heap.size → w'.heap[k]? = w.heap[k]? ∧ B k) : ∀ {x : Nd} {b : Nat}, PRA w A x b → PRA w' B x b
  | .mk k s ks, b, hp => by
    unfold PRA at hp ⊢
    obtain ⟨hg, h0, h1, ⟨a, cap, h2, hs⟩, h3, h4⟩ := hp
    obtain ⟨he, hB⟩ := h b hg (lt_of_cell h0)
    have hc : ∀ j, w'.cell? ⟨b, j, none⟩ = w.cell? ⟨b, j, none⟩ := fun j => World.cell?_of_block (w := w) he
    exact ⟨hB, (hc 0).trans h0, (hc 1).trans h1, ⟨a, cap, (hc 2).trans h2, PRs.to h hs⟩, (hc 3).trans h3, (hc 4).trans h4⟩
theorem PRs.to {w w' : World} {A B : Nat → Prop} (h : ∀ k, A k → k < w.heap.size → w'.heap[k]? = w.heap[k]? ∧ B k) : ∀ {ks : List Nd} {a : Option Addr} {j : Nat}, PRs w A ks a j → PRs w' B ks a j
  | [], _, _, _ => by unfold PRs; trivial
  | x :: ks, a, j, hp => by
    unfold PRs at hp ⊢
    obtain ⟨⟨ab, b, ha, hg, hc, hx⟩, hr⟩ := hp
    obtain ⟨he, hB⟩ := h ab hg (lt_of_cell hc)
    exact ⟨⟨ab, b, ha, hB, (World.cell?_of_block (w := w) he).trans hc, PRA.to h hx⟩, PRs.to h hr⟩
end
/-- all its blocks lie above l -/
def PR (w : World) (l : Nat) (x : Nd) (b : Nat) : Prop := PRA w (fun k => l < k) x b
theorem PR.keep {w w' : World} {g l : Nat} {x : Nd} {b : Nat} (h : w.grownBy w' (some g)) (hl : g ≤ l) (hp : PR w l x b) : PR w' l x b :=
  PRA.to (fun k hk hs => ⟨h.block k hs (by simp; omega), hk⟩) hp
theorem PR.bel {w w' : World} {l : Nat} {x : Nd} {b : Nat} (h : Below w.heap.size w w') (hp : PR w l x b) : PR w' l x b :=
  PRA.to (fun k hk hs => ⟨h.block k hs, hk⟩) hp
theorem PRs.get {w : World} {A : Nat → Prop} {a : Option Addr} : ∀ {ks : List Nd} {j i : Nat} {x : Nd}, PRs w A ks a j → ks[i]? = some x → ∃ ab b, a = some ⟨ab, 0, none⟩ ∧ w.cell? ⟨ab, j + i, none⟩ = some (.pointer (some ⟨b, 0, none⟩)) ∧ PRA w A x b
  | [], _, _, _, _, h => by simp at h
  | y :: ks, j, 0, x, hp, h => by
    unfold PRs at hp
    obtain rfl : y = x := by simpa using h
    obtain ⟨⟨ab, b, ha, _, hc, hx⟩, _⟩ := hp
    exact ⟨ab, b, ha, hc, hx⟩
  | y :: ks, j, i + 1, x, hp, h => by
    unfold PRs at hp
    have := PRs.get hp.2 (i := i) (x := x) (by simpa using h)
    rwa [show j + 1 + i = j + (i + 1) by omega] at this
theorem PRA.d {w : World} {A : Nat → Prop} {b : Nat} : ∀ {x : Nd}, PRA w A x b → w.cell? ⟨b, 3, none⟩ = some (.int .i64 (dpt x : Int)) ∧ w.cell? ⟨b, 4, none⟩ = some (.int .i64 ((min (siz x) 44739243 : Nat) : Int))
  | .mk k s ks, h => by
    unfold PRA at h
    obtain ⟨_, _, _, _, h3, h4⟩ := h
    exact ⟨by rw [h3]; unfold dpt; rfl, by rw [h4]; unfold siz; rfl⟩
theorem dps_app : ∀ (ks : List Nd) (x : Nd), dps (ks ++ [x]) = max (dps ks) (dpt x)
  | [], x => by simp [dps]
  | y :: ks, x => by simp only [List.cons_append, dps]; rw [dps_app ks x]; omega
theorem szs_app : ∀ (ks : List Nd) (x : Nd), szs (ks ++ [x]) = szs ks + siz x
  | [], x => by simp [szs]
  | y :: ks, x => by simp only [List.cons_append, szs]; rw [szs_app ks x]; omega
theorem dpt_le : ∀ {ks : List Nd} {i : Nat} {x : Nd}, ks[i]? = some x → dpt x ≤ dps ks
  | [], _, _, h => by simp at h
  | y :: ks, 0, x, h => by
    obtain rfl : y = x := by simpa using h
    simp only [dps]; omega
  | y :: ks, i + 1, x, h => by
    have := dpt_le (ks := ks) (i := i) (x := x) (by simpa using h)
    simp only [dps]; omega
theorem min_add {S x M B D : Nat} (hB : min (S + 1) M = B) (hD : min x M = D) : min (S + x + 1) M = min (B + D) M := by omega
/-- the part that is being put together -/
structure NP (w0 w : World) (nb k : Nat) (s : ByteArray) (a : Option Addr) (n cap d z : Nat) : Prop where
  c0 : w.cell? ⟨nb, 0, none⟩ = some (.int .i64 (k : Int))
  c1 : w.cell? ⟨nb, 1, none⟩ = some (.string s)
  c2 : w.cell? ⟨nb, 2, none⟩ = some (.slice a n cap)
  c3 : w.cell? ⟨nb, 3, none⟩ = some (.int .i64 (d : Int))
  c4 : w.cell? ⟨nb, 4, none⟩ = some (.int .i64 (z : Int))
  fz : ∀ j, w.frozen? ⟨nb, j, none⟩ = false
  be : Below nb w0 w
theorem NP.dN {w0 w : World} {nb k : Nat} {s : ByteArray} {a : Option Addr} {n cap d z : Nat} (h : NP w0 w nb k s a n cap d z) (q : Nat) : NP w0 (w.drewN q) nb k s a n cap d z := ⟨h.c0, h.c1, h.c2, h.c3, h.c4, h.fz, bdN h.be q⟩
theorem NP.s3 {w0 w : World} {nb k : Nat} {s : ByteArray} {a : Option Addr} {n cap d z : Nat} (h : NP w0 w nb k s a n cap d z) {d' : Nat} {u : Int} (hu : u = (d' : Int)) : NP w0 (w.setCell ⟨nb, 3, none⟩ (.int .i64 u)) nb k s a n cap d' z := by
  subst hu
  refine ⟨?_, ?_, ?_, by simp [go_sem, h.c3], ?_, fun j => by simp [go_sem, h.fz j], h.be.setCell (p := ⟨nb, 3, none⟩) (Nat.le_refl _) _⟩
  · rw [World.cell?_setCell_other _ _ _ _ (by simp)]; exact h.c0
  · rw [World.cell?_setCell_other _ _ _ _ (by simp)]; exact h.c1
  · rw [World.cell?_setCell_other _ _ _ _ (by simp)]; exact h.c2
  · rw [World.cell?_setCell_other _ _ _ _ (by simp)]; exact h.c4
theorem NP.s4 {w0 w : World} {nb k : Nat} {s : ByteArray} {a : Option Addr} {n cap d z : Nat} (h : NP w0 w nb k s a n cap d z) {z' : Nat} {u : Int} (hu : u = (z' : Int)) : NP w0 (w.setCell ⟨nb, 4, none⟩ (.int .i64 u)) nb k s a n cap d z' := by
  subst hu
  refine ⟨?_, ?_, ?_, ?_, by simp [go_sem, h.c4], fun j => by simp [go_sem, h.fz j], h.be.setCell (p := ⟨nb, 4, none⟩) (Nat.le_refl _) _⟩
  · rw [World.cell?_setCell_other _ _ _ _ (by simp)]; exact h.c0
  · rw [World.cell?_setCell_other _ _ _ _ (by simp)]; exact h.c1
  · rw [World.cell?_setCell_other _ _ _ _ (by simp)]; exact h.c2
  · rw [World.cell?_setCell_other _ _ _ _ (by simp)]; exact h.c3
set_option maxRecDepth 100000 in
set_option maxHeartbeats 4000000 in
theorem syNewPart (k : Nat) (s : ByteArray) (ks : List Nd) (a : Option Addr) (cap : Nat) (A : Nat → Prop) (w : World) (hp : PRs w A ks a 0) (hg : A w.heap.size) (hd : dps ks ≤ 10000000) (hn : ks.length ≤ 1000000) :
    Calls Tryz.prog 41 #[.int .i64 (k : Int), .string s, .slice a ks.length cap] w fun e w' => e = .returned (.pointer (some ⟨w.heap.size, 0, none⟩)) ∧ Below w.heap.size w w' ∧ PRA w' A (.mk k s ks) w.heap.size := by
  have hNP : NP w (w.alloc (.cells #[.int .i64 (k : Int), .string s, .slice a ks.length cap, .int .i64 0, .int .i64 1] 49)) w.heap.size k s a ks.length cap 0 1 :=
    ⟨cell_new rfl, cell_new rfl, cell_new rfl, cell_new rfl, cell_new rfl, fun _ => frz_new rfl, (Below.refl _ _).alloc (Nat.le_refl _) _⟩
  have HNP := Lib.hid hNP
  have HP := Lib.hid hp; have HD := Lib.hid hd; have HN := Lib.hid hn; have HG := Lib.hid hg
  obtain ⟨nk, hnk⟩ : ∃ n, ks.length = n := ⟨_, rfl⟩
  rw [hnk] at HNP ⊢
  have HNK := Lib.hid hnk
  have hni : (nk : Int) ≤ 1000000 := by omega
  clear hNP hp hd hn hg hnk
  go_enter Tryz.func41, Tryz.ntmps41
  go_wp2_with fail
  go_loopg [17] nk (fun g s17 wr => ∃ (i : Nat), i + g = nk ∧ s17 = .int .i64 (i : Int) ∧ Hid (NP w wr w.heap.size k s a nk cap (dps (ks.take i)) (min (szs (ks.take i) + 1) 44739243)))
  case atStart => exact ⟨0, by omega, rfl, HNP⟩
  case round =>
    obtain ⟨i, hi, rfl, HR⟩ := hrel
    by_cases hlt : i < nk
    · have hltI : (i : Int) < (nk : Int) := by omega
      obtain ⟨x, hx⟩ : ∃ x, ks[i]? = some x := ⟨_, List.getElem?_eq_getElem (show i < ks.length by have := HNK.out; omega)⟩
      obtain ⟨ab, b, rfl, hc, hpx⟩ := HP.out.get hx
      rw [Nat.zero_add] at hc
      have hcl := lt_of_cell hc
      obtain ⟨y3, y4⟩ := hpx.d
      have hbl := lt_of_cell y3
      simp only at hcl hbl
      have q0 : wr.cell? ⟨ab, i, none⟩ = some (.pointer (some ⟨b, 0, none⟩)) := by rw [HR.out.be.cell (p := ⟨ab, i, none⟩) hcl]; exact hc
      have q3 : wr.cell? ⟨b, 3, none⟩ = some (.int .i64 (dpt x : Int)) := by rw [HR.out.be.cell (p := ⟨b, 3, none⟩) hbl]; exact y3
      have q4 : wr.cell? ⟨b, 4, none⟩ = some (.int .i64 ((min (siz x) 44739243 : Nat) : Int)) := by rw [HR.out.be.cell (p := ⟨b, 4, none⟩) hbl]; exact y4
      have c3 := HR.out.c3; have c4 := HR.out.c4; have fz := HR.out.fz
      have n1 : ¬ b = w.heap.size := by omega
      have n2 : ¬ w.heap.size = b := by omega
      have n3 : ¬ ab = w.heap.size := by omega
      have n4 : ¬ w.heap.size = ab := by omega
      have hz : min (siz x) 44739243 ≤ 44739243 := Nat.min_le_right _ _
      have hz2 : min (szs (ks.take i) + 1) 44739243 ≤ 44739243 := Nat.min_le_right _ _
      have HI := Lib.hid hi; have HLT := Lib.hid hlt; have HX := Lib.hid hx
      clear hi hlt hx hc hpx y3 y4
      generalize hA : dps (ks.take i) = AA at *
      generalize hB : min (szs (ks.take i) + 1) 44739243 = B at *
      generalize hC : dpt x = C at *
      generalize hD : min (siz x) 44739243 = D at *
      have HA := Lib.hid hA; have HB := Lib.hid hB; have HC := Lib.hid hC; have HDD := Lib.hid hD
      clear hA hB hC hD
      generalize hnw : w.heap.size = nw at *
      have HNW := Lib.hid hnw
      clear hnw
      go_wp2_with fail
      go_region
      have HM : Hid (NP w (wr.setCell ⟨nw, 3, none⟩ (.int .i64 (max (AA : Int) (C : Int)))).drew nw k s (some ⟨ab, 0, none⟩) nk cap (max AA C) B) := Lib.hid ((HR.out.s3 (by omega)).dN 1)
      obtain ⟨w2, hW⟩ : ∃ x, (wr.setCell ⟨nw, 3, none⟩ (.int .i64 (max (AA : Int) (C : Int)))).drew = x := ⟨_, rfl⟩
      rw [hW] at HM
      rw [hW]
      have d4 : w2.cell? ⟨b, 4, none⟩ = some (.int .i64 (D : Int)) := by
        rw [← hW]
        show (wr.setCell ⟨nw, 3, none⟩ (.int .i64 (max (AA : Int) (C : Int)))).cell? _ = _
        rw [World.cell?_setCell_other _ _ _ _ (by simp)]; exact q4
      have e4 := HM.out.c4; have fz2 := HM.out.fz
      clear hW q0 q3 q4 c3 c4 fz HR
      have b1 : (B : Int) ≤ 44739243 := by omega
      have b2 : (D : Int) ≤ 44739243 := by omega
      go_wp2_with fail
      go_region
      have HM2 : Hid (NP w (w2.setCell ⟨nw, 4, none⟩ (.int .i64 (min ((B : Int) + (D : Int)) 44739243))).drew nw k s (some ⟨ab, 0, none⟩) nk cap (max AA C) (min (B + D) 44739243)) := Lib.hid ((HM.out.s4 (by omega)).dN 1)
      clear d4 e4 fz2 HM
      go_wp2
      go_roundg (gk - 1)
      case measure => have := HI.out; have := HLT.out; omega
      case rel => exact ⟨i + 1, by have := HI.out; have := HLT.out; omega, by go_num, by
        rw [List.take_add_one, HX.out]
        show Hid (NP w _ nw k s _ nk cap (dps (ks.take i ++ [x])) (min (szs (ks.take i ++ [x]) + 1) 44739243))
        rw [dps_app, szs_app, HA.out, HC.out, min_add HB.out HDD.out]
        exact HM2⟩
    · have hlt' : ¬ (i : Int) < (nk : Int) := by omega
      have HR2 : Hid (NP w wr w.heap.size k s a nk cap (dps ks) (min (szs ks + 1) 44739243)) := Lib.hid (by
        have := HR.out
        rwa [List.take_of_length_le (by have := HNK.out; omega)] at this)
      clear HR hlt hi
      have c3 := HR2.out.c3; have fz := HR2.out.fz
      have hdd : (dps ks : Int) ≤ 10000000 := by have := HD.out; omega
      have HF := Lib.hid (HR2.out.s3 (d' := dps ks + 1) (u := (dps ks : Int) + 1) (by omega))
      clear HR2
      go_wp2
      go_ret
      have hF := HF.out
      have hbe := hF.be
      refine ⟨rfl, hbe, ?_⟩
      unfold PRA
      refine ⟨HG.out, hF.c0, hF.c1, ⟨a, cap, ?_, HP.out.to (fun k hk hs => ⟨hbe.block k hs, hk⟩)⟩, hF.c3, hF.c4⟩
      rw [HNK.out]; exact hF.c2
end Go.Proofs.YtpgiljibicigeaaGreatDoor
