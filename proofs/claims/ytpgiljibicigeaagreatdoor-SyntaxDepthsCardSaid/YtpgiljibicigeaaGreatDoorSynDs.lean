/- syntax: parts in memory; newPart walked. -/
import Derived.Test.YtpgiljibicigeaaGreatDoorSynBs
set_option linter.unusedVariables false
set_option linter.unusedSimpArgs false
namespace Go.Proofs.YtpgiljibicigeaaGreatDoor
open Go.RowKit SX

mutual
/-- block b holds the part that stands for a tree; A: what is said of all its blocks -/
def PRA (w : World) (A : Nat → Prop) : Nd → Nat → Prop
  | .mk k s ks, b => A b ∧ w.cell? ⟨b, 0, none⟩ = some (.int .i64 (k : Int)) ∧ w.cell? ⟨b, 1, none⟩ = some (.string s) ∧ (∃ a cap, w.cell? ⟨b, 2, none⟩ = some (.slice a ks.length cap) ∧ PRs w A ks a 0) ∧ w.cell? ⟨b, 3, none⟩ = some (.int .i64 ((dps ks + 1 : Nat) : Int)) ∧ w.cell? ⟨b, 4, none⟩ = some (.int .i64 ((min (szs ks + 1) 44739243 : Nat) : Int))
def PRs (w : World) (A : Nat → Prop) : List Nd → Option Addr → Nat → Prop
  | [], _, _ => True
  | x :: ks, a, j => (∃ ab b, a = some ⟨ab, 0, none⟩ ∧ A ab ∧ w.cell? ⟨ab, j, none⟩ = some (.pointer (some ⟨b, 0, none⟩)) ∧ PRA w A x b) ∧ PRs w A ks a (j + 1)
end
mutual
theorem PRA.to {w w' : World} {A B : Nat → Prop} (h : ∀ k, A k → k < w.heap.size → w'.heap[k]? = w.heap[k]? ∧ B k) : ∀ {x : Nd} {b : Nat}, PRA w A x b → PRA w' B x b
  | .mk k s ks, b, hp => by
    unfold PRA at hp ⊢
    obtain ⟨hg, h0, h1, ⟨a, cap, h2, hs⟩, h3, h4⟩ := hp
    obtain ⟨he, hB⟩ := h b hg (lt_of_cell h0)
    have hc : ∀ j, w'.cell? ⟨b, j, none⟩ = w.cell? ⟨b, j, none⟩ := fun j => World.cell?_of_block (w := w) he
    exact ⟨hB, (hc 0).trans h0, (hc 1).trans h1, ⟨a, cap, (hc 2).trans h2, PRs.to h hs⟩, (hc 3).trans h3, (hc 4).trans h4⟩
theorem PRs.to {w w' : World} {A B : Nat → Prop} (h : ∀ k, A k → k < w.heap.size → w'.heap[k]? = w.heap[k]? ∧ B k) : ∀ {ks : List Nd} {a : Option Addr} {j : Nat}, PRs w A ks a j → PRs w' B ks a j
  | [], _, _, _ => by unfold PRs; trivial
  | x :: ks, a, j, hp => by
    unfold PRs at hp ⊢
    obtain ⟨⟨ab, b, ha, hg, hc, hx⟩, hr⟩ := hp
    obtain ⟨he, hB⟩ := h ab hg (lt_of_cell hc)
    exact ⟨⟨ab, b, ha, hB, (World.cell?_of_block (w := w) he).trans hc, PRA.to h hx⟩, PRs.to h hr⟩
end
/-- all its blocks lie above l -/
def PR (w : World) (l : Nat) (x : Nd) (b : Nat) : Prop := PRA w (fun k => l < k) x b
theorem PR.keep {w w' : World} {g l : Nat} {x : Nd} {b : Nat} (h : w.grownBy w' (some g)) (hl : g ≤ l) (hp : PR w l x b) : PR w' l x b :=
  PRA.to (fun k hk hs => ⟨h.block k hs (by simp; omega), hk⟩) hp
theorem PR.bel {w w' : World} {l : Nat} {x : Nd} {b : Nat} (h : Below w.heap.size w w') (hp : PR w l x b) : PR w' l x b :=
  PRA.to (fun k hk hs => ⟨h.block k hs, hk⟩) hp
theorem PRs.get {w : World} {A : Nat → Prop} {a : Option Addr} : ∀ {ks : List Nd} {j i : Nat} {x : Nd}, PRs w A ks a j → ks[i]? = some x → ∃ ab b, a = some ⟨ab, 0, none⟩ ∧ w.cell? ⟨ab, j + i, none⟩ = some (.pointer (some ⟨b, 0, none⟩)) ∧ PRA w A x b
  | [], _, _, _, _, h => by simp at h
  | y :: ks, j, 0, x, hp, h => by
    unfold PRs at hp
    obtain rfl : y = x := by simpa using h
    obtain ⟨⟨ab, b, ha, _, hc, hx⟩, _⟩ := hp
    exact ⟨ab, b, ha, hc, hx⟩
  | y :: ks, j, i + 1, x, hp, h => by
    unfold PRs at hp
    have := PRs.get hp.2 (i := i) (x := x) (by simpa using h)
    rwa [show j + 1 + i = j + (i + 1) by omega] at this
theorem PRA.d {w : World} {A : Nat → Prop} {b : Nat} : ∀ {x : Nd}, PRA w A x b → w.cell? ⟨b, 3, none⟩ = some (.int .i64 (dpt x : Int)) ∧ w.cell? ⟨b, 4, none⟩ = some (.int .i64 ((min (siz x) 44739243 : Nat) : Int))
  | .mk k s ks, h => by
    unfold PRA at h
    obtain ⟨_, _, _, _, h3, h4⟩ := h
    exact ⟨by rw [h3]; unfold dpt; rfl, by rw [h4]; unfold siz; rfl⟩
theorem dps_app : ∀ (ks : List Nd) (x : Nd), dps (ks ++ [x]) = max (dps ks) (dpt x)
  | [], x => by simp [dps]
  | y :: ks, x => by simp only [List.cons_append, dps]; rw [dps_app ks x]; omega
theorem szs_app : ∀ (ks : List Nd) (x : Nd), szs (ks ++ [x]) = szs ks + siz x
  | [], x => by simp [szs]
  | y :: ks, x => by simp only [List.cons_append, szs]; rw [szs_app ks x]; omega
theorem dpt_le : ∀ {ks : List Nd} {i : Nat} {x : Nd}, ks[i]? = some x → dpt x ≤ dps ks
  | [], _, _, h => by simp at h
  | y :: ks, 0, x, h => by
    obtain rfl : y = x := by simpa using h
    simp only [dps]; omega
  | y :: ks, i + 1, x, h => by
    have := dpt_le (ks := ks) (i := i) (x := x) (by simpa using h)
    simp only [dps]; omega
theorem min_add {S x M B D : Nat} (hB : min (S + 1) M = B) (hD : min x M = D) : min (S + x + 1) M = min (B + D) M := by omega
/-- the part that is being put together -/
structure NP (w0 w : World) (nb k : Nat) (s : ByteArray) (a : Option Addr) (n cap d z : Nat) : Prop where
  c0 : w.cell? ⟨nb, 0, none⟩ = some (.int .i64 (k : Int))
  c1 : w.cell? ⟨nb, 1, none⟩ = some (.string s)
  c2 : w.cell? ⟨nb, 2, none⟩ = some (.slice a n cap)
  c3 : w.cell? ⟨nb, 3, none⟩ = some (.int .i64 (d : Int))
  c4 : w.cell? ⟨nb, 4, none⟩ = some (.int .i64 (z : Int))
  fz : ∀ j, w.frozen? ⟨nb, j, none⟩ = false
  be : Below nb w0 w
theorem NP.dN {w0 w : World} {nb k : Nat} {s : ByteArray} {a : Option Addr} {n cap d z : Nat} (h : NP w0 w nb k s a n cap d z) (q : Nat) : NP w0 (w.drewN q) nb k s a n cap d z := ⟨h.c0, h.c1, h.c2, h.c3, h.c4, h.fz, bdN h.be q⟩
theorem NP.s3 {w0 w : World} {nb k : Nat} {s : ByteArray} {a : Option Addr} {n cap d z : Nat} (h : NP w0 w nb k s a n cap d z) {d' : Nat} {u : Int} (hu : u = (d' : Int)) : NP w0 (w.setCell ⟨nb, 3, none⟩ (.int .i64 u)) nb k s a n cap d' z := by
  subst hu
  refine ⟨?_, ?_, ?_, by simp [go_sem, h.c3], ?_, fun j => by simp [go_sem, h.fz j], h.be.setCell (p := ⟨nb, 3, none⟩) (Nat.le_refl _) _⟩
  · rw [World.cell?_setCell_other _ _ _ _ (by simp)]; exact h.c0
  · rw [World.cell?_setCell_other _ _ _ _ (by simp)]; exact h.c1
  · rw [World.cell?_setCell_other _ _ _ _ (by simp)]; exact h.c2
  · rw [World.cell?_setCell_other _ _ _ _ (by simp)]; exact h.c4
theorem NP.s4 {w0 w : World} {nb k : Nat} {s : ByteArray} {a : Option Addr} {n cap d z : Nat} (h : NP w0 w nb k s a n cap d z) {z' : Nat} {u : Int} (hu : u = (z' : Int)) : NP w0 (w.setCell ⟨nb, 4, none⟩ (.int .i64 u)) nb k s a n cap d z' := by
  subst hu
  refine ⟨?_, ?_, ?_, ?_, by simp [go_sem, h.c4], fun j => by simp [go_sem, h.fz j], h.be.setCell (p := ⟨nb, 4, none⟩) (Nat.le_refl _) _⟩
  · rw [World.cell?_setCell_other _ _ _ _ (by simp)]; exact h.c0
  · rw [World.cell?_setCell_other _ _ _ _ (by simp)]; exact h.c1
  · rw [World.cell?_setCell_other _ _ _ _ (by simp)]; exact h.c2
  · rw [World.cell?_setCell_other _ _ _ _ (by simp)]; exact h.c3
set_option maxRecDepth 100000 in
set_option maxHeartbeats 4000000 in
theorem syNewPart (k : Nat) (s : ByteArray) (ks : List Nd) (a : Option Addr) (cap : Nat) (A : Nat → Prop) (w : World) (hp : PRs w A ks a 0) (hg : A w.heap.size) (hd : dps ks ≤ 10000000) (hn : ks.length ≤ 1000000) :
    Calls Tryz.prog 41 #[.int .i64 (k : Int), .string s, .slice a ks.length cap] w fun e w' => e = .returned (.pointer (some ⟨w.heap.size, 0, none⟩)) ∧ Below w.heap.size w w' ∧ PRA w' A (.mk k s ks) w.heap.size := by
  have hNP : NP w (w.alloc (.cells #[.int .i64 (k : Int), .string s, .slice a ks.length cap, .int .i64 0, .int .i64 1] 49)) w.heap.size k s a ks.length cap 0 1 :=
    ⟨cell_new rfl, cell_new rfl, cell_new rfl, cell_new rfl, cell_new rfl, fun _ => frz_new rfl, (Below.refl _ _).alloc (Nat.le_refl _) _⟩
  have HNP := Lib.hid hNP
  have HP := Lib.hid hp; have HD := Lib.hid hd; have HN := Lib.hid hn; have HG := Lib.hid hg
  obtain ⟨nk, hnk⟩ : ∃ n, ks.length = n := ⟨_, rfl⟩
  rw [hnk] at HNP ⊢
  have HNK := Lib.hid hnk
  have hni : (nk : Int) ≤ 1000000 := by omega
  clear hNP hp hd hn hg hnk
  go_enter Tryz.func41, Tryz.ntmps41
  go_wp2_with fail
  go_loopg [17] nk (fun g s17 wr => ∃ (i : Nat), i + g = nk ∧ s17 = .int .i64 (i : Int) ∧ Hid (NP w wr w.heap.size k s a nk cap (dps (ks.take i)) (min (szs (ks.take i) + 1) 44739243)))
  case atStart => exact ⟨0, by omega, rfl, HNP⟩
  case round =>
    obtain ⟨i, hi, rfl, HR⟩ := hrel
    by_cases hlt : i < nk
    · have hltI : (i : Int) < (nk : Int) := by omega
      obtain ⟨x, hx⟩ : ∃ x, ks[i]? = some x := ⟨_, List.getElem?_eq_getElem (show i < ks.length by have := HNK.out; omega)⟩
      obtain ⟨ab, b, rfl, hc, hpx⟩ := HP.out.get hx
      rw [Nat.zero_add] at hc
      have hcl := lt_of_cell hc
      obtain ⟨y3, y4⟩ := hpx.d
      have hbl := lt_of_cell y3
      simp only at hcl hbl
      have q0 : wr.cell? ⟨ab, i, none⟩ = some (.pointer (some ⟨b, 0, none⟩)) := by rw [HR.out.be.cell (p := ⟨ab, i, none⟩) hcl]; exact hc
      have q3 : wr.cell? ⟨b, 3, none⟩ = some (.int .i64 (dpt x : Int)) := by rw [HR.out.be.cell (p := ⟨b, 3, none⟩) hbl]; exact y3
      have q4 : wr.cell? ⟨b, 4, none⟩ = some (.int .i64 ((min (siz x) 44739243 : Nat) : Int)) := by rw [HR.out.be.cell (p := ⟨b, 4, none⟩) hbl]; exact y4
      have c3 := HR.out.c3; have c4 := HR.out.c4; have fz := HR.out.fz
      have n1 : ¬ b = w.heap.size := by omega
      have n2 : ¬ w.heap.size = b := by omega
      have n3 : ¬ ab = w.heap.size := by omega
      have n4 : ¬ w.heap.size = ab := by omega
      have hz : min (siz x) 44739243 ≤ 44739243 := Nat.min_le_right _ _
      have hz2 : min (szs (ks.take i) + 1) 44739243 ≤ 44739243 := Nat.min_le_right _ _
      have HI := Lib.hid hi; have HLT := Lib.hid hlt; have HX := Lib.hid hx
      clear hi hlt hx hc hpx y3 y4
      generalize hA : dps (ks.take i) = AA at *
      generalize hB : min (szs (ks.take i) + 1) 44739243 = B at *
      generalize hC : dpt x = C at *
      generalize hD : min (siz x) 44739243 = D at *
      have HA := Lib.hid hA; have HB := Lib.hid hB; have HC := Lib.hid hC; have HDD := Lib.hid hD
      clear hA hB hC hD
      generalize hnw : w.heap.size = nw at *
      have HNW := Lib.hid hnw
      clear hnw
      go_wp2_with fail
      go_region
      have HM : Hid (NP w (wr.setCell ⟨nw, 3, none⟩ (.int .i64 (max (AA : Int) (C : Int)))).drew nw k s (some ⟨ab, 0, none⟩) nk cap (max AA C) B) := Lib.hid ((HR.out.s3 (by omega)).dN 1)
      obtain ⟨w2, hW⟩ : ∃ x, (wr.setCell ⟨nw, 3, none⟩ (.int .i64 (max (AA : Int) (C : Int)))).drew = x := ⟨_, rfl⟩
      rw [hW] at HM
      rw [hW]
      have d4 : w2.cell? ⟨b, 4, none⟩ = some (.int .i64 (D : Int)) := by
        rw [← hW]
        show (wr.setCell ⟨nw, 3, none⟩ (.int .i64 (max (AA : Int) (C : Int)))).cell? _ = _
        rw [World.cell?_setCell_other _ _ _ _ (by simp)]; exact q4
      have e4 := HM.out.c4; have fz2 := HM.out.fz
      clear hW q0 q3 q4 c3 c4 fz HR
      have b1 : (B : Int) ≤ 44739243 := by omega
      have b2 : (D : Int) ≤ 44739243 := by omega
      go_wp2_with fail
      go_region
      have HM2 : Hid (NP w (w2.setCell ⟨nw, 4, none⟩ (.int .i64 (min ((B : Int) + (D : Int)) 44739243))).drew nw k s (some ⟨ab, 0, none⟩) nk cap (max AA C) (min (B + D) 44739243)) := Lib.hid ((HM.out.s4 (by omega)).dN 1)
      clear d4 e4 fz2 HM
      go_wp2
      go_roundg (gk - 1)
      case measure => have := HI.out; have := HLT.out; omega
      case rel => exact ⟨i + 1, by have := HI.out; have := HLT.out; omega, by go_num, by
        rw [List.take_add_one, HX.out]
        show Hid (NP w _ nw k s _ nk cap (dps (ks.take i ++ [x])) (min (szs (ks.take i ++ [x]) + 1) 44739243))
        rw [dps_app, szs_app, HA.out, HC.out, min_add HB.out HDD.out]
        exact HM2⟩
    · have hlt' : ¬ (i : Int) < (nk : Int) := by omega
      have HR2 : Hid (NP w wr w.heap.size k s a nk cap (dps ks) (min (szs ks + 1) 44739243)) := Lib.hid (by
        have := HR.out
        rwa [List.take_of_length_le (by have := HNK.out; omega)] at this)
      clear HR hlt hi
      have c3 := HR2.out.c3; have fz := HR2.out.fz
      have hdd : (dps ks : Int) ≤ 10000000 := by have := HD.out; omega
      have HF := Lib.hid (HR2.out.s3 (d' := dps ks + 1) (u := (dps ks : Int) + 1) (by omega))
      clear HR2
      go_wp2
      go_ret
      have hF := HF.out
      have hbe := hF.be
      refine ⟨rfl, hbe, ?_⟩
      unfold PRA
      refine ⟨HG.out, hF.c0, hF.c1, ⟨a, cap, ?_, HP.out.to (fun k hk hs => ⟨hbe.block k hs, hk⟩)⟩, hF.c3, hF.c4⟩
      rw [HNK.out]; exact hF.c2
end Go.Proofs.YtpgiljibicigeaaGreatDoor

/- syntax: small parts: self, none, plain, index, held; parts of so many kids. -/
namespace Go.Proofs.YtpgiljibicigeaaGreatDoor
open Go.RowKit SX

abbrev ptr (b : Nat) : Value := .pointer (some ⟨b, 0, none⟩)
/-- a part told -/
def ResPt (w : World) (g : Nat) (x : Nd) (e : Ending) (w' : World) : Prop := ∃ b, e = .returned (ptr b) ∧ Below w.heap.size w w' ∧ PR w' g x b
def VN (g : Nat) : Nd → Value → World → Prop := fun x u w' => ∃ b, u = ptr b ∧ PR w' g x b
theorem PR.alloc {w : World} {g b : Nat} {x : Nd} (h : PR w g x b) (o : Obj) : PR (w.alloc o) g x b := h.bel ((Below.refl _ _).alloc (Nat.le_refl _) o)
theorem prs_mk {w : World} {A : Nat → Prop} {ab : Nat} (hg : A ab) : ∀ (ks : List Nd) (j : Nat), (∀ (i : Nat) (x : Nd), ks[i]? = some x → ∃ b, w.cell? ⟨ab, j + i, none⟩ = some (ptr b) ∧ PRA w A x b) → PRs w A ks (some ⟨ab, 0, none⟩) j
  | [], _, _ => by unfold PRs; trivial
  | x :: ks, j, h => by
    unfold PRs
    obtain ⟨b, h1, h2⟩ := h 0 x rfl
    refine ⟨⟨ab, b, rfl, hg, h1, h2⟩, prs_mk hg ks (j + 1) fun i y hy => ?_⟩
    have := h (i + 1) y (by simpa using hy)
    rwa [show j + (i + 1) = j + 1 + i by omega] at this
theorem prs_arr {w : World} {g : Nat} {T : TypeId} (hg : g < w.heap.size) {ks : List Nd} {bs : List Nat} (h : ∀ (i : Nat) (x : Nd), ks[i]? = some x → ∃ b, bs[i]? = some b ∧ PR w g x b) : PRs (w.alloc (.cells (bs.map ptr).toArray T)) (fun k => g < k) ks (some ⟨w.heap.size, 0, none⟩) 0 := by
  refine prs_mk hg ks 0 fun i x hx => ?_
  obtain ⟨b, hb, hp⟩ := h i x hx
  refine ⟨b, ?_, hp.alloc _⟩
  rw [cell_new rfl, Nat.zero_add, List.getElem?_toArray, List.getElem?_map, hb]; rfl
theorem syNewA {w : World} {g : Nat} {T : TypeId} (k : Nat) (s : ByteArray) (ks : List Nd) (bs : List Nat) (hg : g < w.heap.size) (h : ∀ (i : Nat) (x : Nd), ks[i]? = some x → ∃ b, bs[i]? = some b ∧ PR w g x b) (hd : dps ks ≤ 10000000) (hn : ks.length ≤ 1000000) :
    Calls Tryz.prog 41 #[.int .i64 (k : Int), .string s, .slice (some ⟨w.heap.size, 0, none⟩) ks.length ks.length] (w.alloc (.cells (bs.map ptr).toArray T)) (ResPt w g (.mk k s ks)) := by
  refine (syNewPart k s ks (some ⟨w.heap.size, 0, none⟩) ks.length (fun k => g < k) _ (prs_arr hg h) (by simp; omega) hd hn).mono ?_
  rintro e w' ⟨rfl, hb, hp⟩
  have h1 : Below w.heap.size w (w.alloc (.cells (bs.map ptr).toArray T)) := (Below.refl _ _).alloc (Nat.le_refl _) _
  exact ⟨_, rfl, h1.trans (hb.mono h1.size), hp⟩
theorem syNew0 {w : World} {g : Nat} (hg : g < w.heap.size) (k : Nat) (s : ByteArray) : Calls Tryz.prog 41 #[.int .i64 (k : Int), .string s, .slice none 0 0] w (ResPt w g (.mk k s [])) := by
  refine (syNewPart k s [] none 0 (fun k => g < k) w (by unfold PRs; trivial) hg (by simp [dps]) (by simp)).mono ?_
  rintro e w' ⟨rfl, hb, hp⟩
  exact ⟨_, rfl, hb, hp⟩
theorem syNew1 {w : World} {g : Nat} {T : TypeId} {x : Nd} {b : Nat} (hg : g < w.heap.size) (hx : PR w g x b) (dx : dpt x ≤ 1000000) (k : Nat) (s : ByteArray) : Calls Tryz.prog 41 #[.int .i64 (k : Int), .string s, .slice (some ⟨w.heap.size, 0, none⟩) 1 1] (w.alloc (.cells #[ptr b] T)) (ResPt w g (.mk k s [x])) :=
  syNewA k s [x] [b] hg (fun i y hy => by
    match i, hy with
    | 0, hy => obtain rfl : x = y := by simpa using hy
               exact ⟨b, rfl, hx⟩
    | i + 1, hy => simp at hy) (by simp only [dps]; omega) (by simp)
theorem syNew2 {w : World} {g : Nat} {T : TypeId} {x y : Nd} {b c : Nat} (hg : g < w.heap.size) (hx : PR w g x b) (hy : PR w g y c) (dx : dpt x ≤ 1000000) (dy : dpt y ≤ 1000000) (k : Nat) (s : ByteArray) : Calls Tryz.prog 41 #[.int .i64 (k : Int), .string s, .slice (some ⟨w.heap.size, 0, none⟩) 2 2] (w.alloc (.cells #[ptr b, ptr c] T)) (ResPt w g (.mk k s [x, y])) :=
  syNewA k s [x, y] [b, c] hg (fun i z hz => by
    match i, hz with
    | 0, hz => obtain rfl : x = z := by simpa using hz
               exact ⟨b, rfl, hx⟩
    | 1, hz => obtain rfl : y = z := by simpa using hz
               exact ⟨c, rfl, hy⟩
    | i + 2, hz => simp at hz) (by simp only [dps]; omega) (by simp)
theorem syNew3 {w : World} {g : Nat} {T : TypeId} {x y z : Nd} {b c d : Nat} (hg : g < w.heap.size) (hx : PR w g x b) (hy : PR w g y c) (hz : PR w g z d) (dx : dpt x ≤ 1000000) (dy : dpt y ≤ 1000000) (dz : dpt z ≤ 1000000) (k : Nat) (s : ByteArray) : Calls Tryz.prog 41 #[.int .i64 (k : Int), .string s, .slice (some ⟨w.heap.size, 0, none⟩) 3 3] (w.alloc (.cells #[ptr b, ptr c, ptr d] T)) (ResPt w g (.mk k s [x, y, z])) :=
  syNewA k s [x, y, z] [b, c, d] hg (fun i u hu => by
    match i, hu with
    | 0, hu => obtain rfl : x = u := by simpa using hu
               exact ⟨b, rfl, hx⟩
    | 1, hu => obtain rfl : y = u := by simpa using hu
               exact ⟨c, rfl, hy⟩
    | 2, hu => obtain rfl : z = u := by simpa using hu
               exact ⟨d, rfl, hz⟩
    | i + 3, hu => simp at hu) (by simp only [dps]; omega) (by simp)
theorem syNew4 {w : World} {g : Nat} {T : TypeId} {x y z t : Nd} {b c d e : Nat} (hg : g < w.heap.size) (hx : PR w g x b) (hy : PR w g y c) (hz : PR w g z d) (ht : PR w g t e) (dx : dpt x ≤ 1000000) (dy : dpt y ≤ 1000000) (dz : dpt z ≤ 1000000) (dt : dpt t ≤ 1000000) (k : Nat) (s : ByteArray) : Calls Tryz.prog 41 #[.int .i64 (k : Int), .string s, .slice (some ⟨w.heap.size, 0, none⟩) 4 4] (w.alloc (.cells #[ptr b, ptr c, ptr d, ptr e] T)) (ResPt w g (.mk k s [x, y, z, t])) :=
  syNewA k s [x, y, z, t] [b, c, d, e] hg (fun i u hu => by
    match i, hu with
    | 0, hu => obtain rfl : x = u := by simpa using hu
               exact ⟨b, rfl, hx⟩
    | 1, hu => obtain rfl : y = u := by simpa using hu
               exact ⟨c, rfl, hy⟩
    | 2, hu => obtain rfl : z = u := by simpa using hu
               exact ⟨d, rfl, hz⟩
    | 3, hu => obtain rfl : t = u := by simpa using hu
               exact ⟨e, rfl, ht⟩
    | i + 4, hu => simp at hu) (by simp only [dps]; omega) (by simp)
theorem syNew5 {w : World} {g : Nat} {T : TypeId} {x y z t r : Nd} {b c d e f : Nat} (hg : g < w.heap.size) (hx : PR w g x b) (hy : PR w g y c) (hz : PR w g z d) (ht : PR w g t e) (hr : PR w g r f) (dx : dpt x ≤ 1000000) (dy : dpt y ≤ 1000000) (dz : dpt z ≤ 1000000) (dt : dpt t ≤ 1000000) (dr : dpt r ≤ 1000000) (k : Nat) (s : ByteArray) : Calls Tryz.prog 41 #[.int .i64 (k : Int), .string s, .slice (some ⟨w.heap.size, 0, none⟩) 5 5] (w.alloc (.cells #[ptr b, ptr c, ptr d, ptr e, ptr f] T)) (ResPt w g (.mk k s [x, y, z, t, r])) :=
  syNewA k s [x, y, z, t, r] [b, c, d, e, f] hg (fun i u hu => by
    match i, hu with
    | 0, hu => obtain rfl : x = u := by simpa using hu
               exact ⟨b, rfl, hx⟩
    | 1, hu => obtain rfl : y = u := by simpa using hu
               exact ⟨c, rfl, hy⟩
    | 2, hu => obtain rfl : z = u := by simpa using hu
               exact ⟨d, rfl, hz⟩
    | 3, hu => obtain rfl : t = u := by simpa using hu
               exact ⟨e, rfl, ht⟩
    | 4, hu => obtain rfl : r = u := by simpa using hu
               exact ⟨f, rfl, hr⟩
    | i + 5, hu => simp at hu) (by simp only [dps]; omega) (by simp)
set_option maxRecDepth 100000 in
theorem sySelf {w : World} {g : Nat} (hg : g < w.heap.size) : Calls Tryz.prog 104 #[] w (ResPt w g slf) := by
  have HC := Lib.hid (syNew0 hg 1 SX.nil)
  clear hg
  go_enter Tryz.func104, Tryz.ntmps104
  go_wp2_with fail
  refine HC.out.mono ?_
  rintro e w1 ⟨b, rfl, hb, hp⟩
  have HR := Lib.hid (show ResPt w g slf (.returned (ptr b)) w1 from ⟨b, rfl, hb, hp⟩)
  clear hb hp HC
  go_wp2
  go_ret
  exact HR.out
set_option maxRecDepth 100000 in
theorem syNone {w : World} {g : Nat} (hg : g < w.heap.size) : Calls Tryz.prog 107 #[] w (ResPt w g non) := by
  have HC := Lib.hid (syNew0 hg 32 SX.nil)
  clear hg
  go_enter Tryz.func107, Tryz.ntmps107
  go_wp2_with fail
  refine HC.out.mono ?_
  rintro e w1 ⟨b, rfl, hb, hp⟩
  have HR := Lib.hid (show ResPt w g non (.returned (ptr b)) w1 from ⟨b, rfl, hb, hp⟩)
  clear hb hp HC
  go_wp2
  go_ret
  exact HR.out
set_option maxRecDepth 100000 in
theorem syPlain {w : World} {g : Nat} (hg : g < w.heap.size) (s : ByteArray) : Calls Tryz.prog 94 #[.string s] w (ResPt w g (pln s)) := by
  have HC := Lib.hid (syNew0 hg 5 s)
  have HG := Lib.hid hg
  clear hg
  go_enter Tryz.func94, Tryz.ntmps94
  go_wp2_with fail
  refine HC.out.mono ?_
  rintro e w1 ⟨b, rfl, hb, hp⟩
  have HD := Lib.hid (fun T => syNew1 (T := T) (Nat.lt_of_lt_of_le HG.out hb.size) hp (by simp [dpt, dps]) 4 SX.nil)
  have HB := Lib.hid hb
  clear hb hp HC
  go_wp2_with fail
  refine (HD.out _).mono ?_
  rintro e w2 ⟨c, rfl, hb, hp⟩
  have HR := Lib.hid (show ResPt w g (pln s) (.returned (ptr c)) w2 from ⟨c, rfl, HB.out.trans (hb.mono HB.out.size), hp⟩)
  clear hb hp HB HD
  go_wp2
  go_ret
  exact HR.out
set_option maxRecDepth 100000 in
theorem syIndex {w : World} {g b c : Nat} {x y : Nd} (hg : g < w.heap.size) (hx : PR w g x b) (hy : PR w g y c) (dx : dpt x ≤ 1000000) (dy : dpt y ≤ 1000000) : Calls Tryz.prog 93 #[ptr b, ptr c] w (ResPt w g (ixN x y)) := by
  have HD := Lib.hid (fun T => syNew2 (T := T) hg hx hy dx dy 10 SX.nil)
  clear hg hx hy dx dy
  go_enter Tryz.func93, Tryz.ntmps93
  go_wp2_with fail
  refine (HD.out _).mono ?_
  rintro e w2 ⟨d, rfl, hb, hp⟩
  have HR := Lib.hid (show ResPt w g (ixN x y) (.returned (ptr d)) w2 from ⟨d, rfl, hb, hp⟩)
  clear hb hp HD
  go_wp2
  go_ret
  exact HR.out
theorem l44 : (⟨#[44]⟩ : ByteArray).toList = [44] := by rw [ByteArray.toList_eq]
set_option maxRecDepth 100000 in
set_option maxHeartbeats 2000000 in
theorem syHeld {w : World} {g b c : Nat} {x y : Nd} (s : ByteArray) (hg : g < w.heap.size) (hx : PR w g x b) (hy : PR w g y c) (dx : dpt x ≤ 1000000) (dy : dpt y ≤ 1000000) : Calls Tryz.prog 65 #[.string s, ptr b, ptr c] w (ResPt w g (heldN s x y)) := by
  have HV := Lib.hid (seq_val s ⟨#[44]⟩)
  unfold heldN
  cases hs : SX.seq s ⟨#[44]⟩ with
  | true =>
    rw [hs] at HV
    rw [if_pos rfl]
    have hq : (s.toList == [44]) = true := by rw [← l44]; exact HV.out
    have HD := Lib.hid (fun T => syNew2 (T := T) hg hx hy dx dy 16 SX.nil)
    clear hg hx hy dx dy hs HV
    go_enter Tryz.func65, Tryz.ntmps65
    go_wp2_with fail
    refine (HD.out _).mono ?_
    rintro e w2 ⟨d, rfl, hb, hp⟩
    have HR := Lib.hid (show ResPt w g (.mk 16 SX.nil [x, y]) (.returned (ptr d)) w2 from ⟨d, rfl, hb, hp⟩)
    clear hb hp HD
    go_wp2
    go_ret
    exact HR.out
  | false =>
    rw [hs] at HV
    rw [if_neg (by decide)]
    have hq : (s.toList == [44]) = false := by rw [← l44]; exact HV.out
    have HD := Lib.hid (fun T => syNew2 (T := T) hg hx hy dx dy 17 s)
    clear hg hx hy dx dy hs HV
    go_enter Tryz.func65, Tryz.ntmps65
    go_wp2_with fail
    refine (HD.out _).mono ?_
    rintro e w2 ⟨d, rfl, hb, hp⟩
    have HR := Lib.hid (show ResPt w g (.mk 17 s [x, y]) (.returned (ptr d)) w2 from ⟨d, rfl, hb, hp⟩)
    clear hb hp HD
    go_wp2
    go_ret
    exact HR.out
end Go.Proofs.YtpgiljibicigeaaGreatDoor

/- syntax: what the rules lean on: those that begin further on. -/
namespace Go.Proofs.YtpgiljibicigeaaGreatDoor
open Go.RowKit SX

def Cn (v : Ev) (g f : Nat) (R : Nat → Nat → Rs Nd) (i : Nat) : Prop := ∀ (w : World) (pp l : Nat), g ≤ l → l < w.heap.size → PB v w g i pp → Calls Tryz.prog f #[ptr g] w (Out v g pp w (R pp i) (VN l))
structure HKs (v : Ev) (g : Nat) (K : Kn) (n : Nat) : Prop where
  pipe : ∀ i, v.L.length - i < n → Cn v g 22 K.pipe i
  climb : ∀ (l i : Nat), v.L.length - i < n → ∀ (w : World) (pp lo : Nat), g ≤ lo → lo < w.heap.size → PB v w g i pp → Calls Tryz.prog 42 #[ptr g, .int .i64 (l : Int)] w (Out v g pp w (K.climb l pp i) (VN lo))
  neg : ∀ i, v.L.length - i < n → Cn v g 63 K.neg i
  post : ∀ i, v.L.length - i < n → Cn v g 85 K.post i
  pat : ∀ i, v.L.length - i < n → Cn v g 86 K.pat i
  choice : ∀ i, v.L.length - i + 1 < n → Cn v g 113 K.choice i
end Go.Proofs.YtpgiljibicigeaaGreatDoor
