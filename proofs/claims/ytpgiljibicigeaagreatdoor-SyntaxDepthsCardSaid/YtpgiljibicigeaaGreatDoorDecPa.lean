/- Walk of dec.Parse. -/
import Derived.Test.YtpgiljibicigeaaGreatDoorDecSr
import Derived.Test.YtpgiljibicigeaaGreatDoorLimbGs
set_option linter.unusedVariables false
set_option linter.unusedSimpArgs false
namespace Go.Proofs.YtpgiljibicigeaaGreatDoor
open Go.RowKit LM

def expo (q : RS) : Int := (if q.down then -(q.pw : Int) else q.pw) - q.beh
def endOk (q : RS) : Bool := decide (q.st = 3 ∨ q.st = 4 ∨ q.st = 6 ∨ q.st = 9)
def prsA (s : ByteArray) : Ans :=
  match rrun s s.size 0 rs0 with
  | none => ⟨2, zP⟩
  | some q => if endOk q = true then (if 1000 < s.size then ⟨3, zP⟩ else tellA q.neg (dv q.ds) (expo q)) else ⟨2, zP⟩

def goodR (q : RS) : Prop := (∀ c ∈ q.ds, isD c = true) ∧ (q.st = 1 ∨ q.st = 2 ∨ q.ds ≠ [])

theorem isD_of {c : Nat} (h1 : 48 ≤ (c : Int)) (h2 : (c : Int) ≤ 57) : isD (UInt8.ofNat c) = true := by
  have e : (UInt8.ofNat c).toNat = c := by simp; omega
  unfold isD; rw [e]; simp; omega

theorem nx_back (st c : Int) (h : nx st c = 5 ∨ nx st c = 7 ∨ nx st c = 8 ∨ nx st c = 9) : st ≠ 1 ∧ st ≠ 2 := by
  unfold nx nd at h
  repeat' split at h
  all_goals omega

theorem good_step {q : RS} {c : Nat} (h : goodR q) (h0 : nx q.st c ≠ 0) : goodR (rupd q c) := by
  obtain ⟨hd, hn⟩ := h
  have hb := nx_back q.st c
  rcases nx_rng q.st c with ht | ht | ⟨ht | ht | ht | ht, g1, g2⟩ | ht | ht | ht
  · exact absurd ht h0
  · rw [rupd_at q c ht]; exact ⟨hd, .inr (.inl rfl)⟩
  · rw [rupd_at q c ht]; exact ⟨fun x hx => by simp at hx; rcases hx with hx | rfl; exact hd x hx; exact isD_of g1 g2, .inr (.inr (by simp))⟩
  · rw [rupd_at q c ht]; exact ⟨fun x hx => by simp at hx; rcases hx with hx | rfl; exact hd x hx; exact isD_of g1 g2, .inr (.inr (by simp))⟩
  · rw [rupd_at q c ht]; exact ⟨fun x hx => by simp at hx; rcases hx with hx | rfl; exact hd x hx; exact isD_of g1 g2, .inr (.inr (by simp))⟩
  · rw [rupd_at q c ht]; have := hb (by omega); exact ⟨hd, .inr (.inr (by rcases hn with h | h | h; exact absurd h this.1; exact absurd h this.2; exact h))⟩
  · rw [rupd_at q c ht]; have := hb (by omega); exact ⟨hd, .inr (.inr (by rcases hn with h | h | h; exact absurd h this.1; exact absurd h this.2; exact h))⟩
  · rw [rupd_at q c ht]; have := hb (by omega); exact ⟨hd, .inr (.inr (by rcases hn with h | h | h; exact absurd h this.1; exact absurd h this.2; exact h))⟩
  · rw [rupd_at q c ht]; have := hb (by omega); exact ⟨hd, .inr (.inr (by rcases hn with h | h | h; exact absurd h this.1; exact absurd h this.2; exact h))⟩

theorem rrun_good (s : ByteArray) : ∀ f pos q q', goodR q → rrun s f pos q = some q' → goodR q' := by
  intro f
  induction f with
  | zero => intro pos q q' h e; cases e; exact h
  | succ f ih =>
    intro pos q q' h e
    rw [rrun] at e
    split at e
    · split at e
      · cases e
      · rename_i h1 h2; exact ih _ _ _ (good_step h h2) e
    · cases e; exact h

theorem okD_good {q : RS} (h : goodR q) (he : endOk q = true) : okD (txt q.ds) = true := by
  have h1 := of_decide_eq_true he
  unfold okD
  rw [txt_list]
  have h2 : q.ds ≠ [] := by rcases h.2 with e | e | e; omega; omega; exact e
  have h3 : q.ds.all isD = true := List.all_eq_true.2 h.1
  rw [h3]; cases hd : q.ds with
  | nil => exact absurd hd h2
  | cons a l => rfl

theorem zeroRes {w1 : World} {b : Nat} {x0 x1 x2 : Value} (k0 : w1.cell? ⟨b, 0, none⟩ = some x0) (k1 : w1.cell? ⟨b, 1, none⟩ = some x1) (k2 : w1.cell? ⟨b, 2, none⟩ = some x2) (o : Obj) :
    ((((w1.setCell ⟨b, 0, none⟩ (.bool false)).setCell ⟨b, 1, none⟩ (.slice none 0 0)).setCell ⟨b, 2, none⟩ (.int .i64 0)).alloc o).cell? ⟨b, 0, none⟩ = some (.bool false) ∧
    ((((w1.setCell ⟨b, 0, none⟩ (.bool false)).setCell ⟨b, 1, none⟩ (.slice none 0 0)).setCell ⟨b, 2, none⟩ (.int .i64 0)).alloc o).cell? ⟨b, 1, none⟩ = some (.slice none 0 0) ∧
    ((((w1.setCell ⟨b, 0, none⟩ (.bool false)).setCell ⟨b, 1, none⟩ (.slice none 0 0)).setCell ⟨b, 2, none⟩ (.int .i64 0)).alloc o).cell? ⟨b, 2, none⟩ = some (.int .i64 0) := by
  have s0 : (((w1.setCell ⟨b, 0, none⟩ (.bool false)).setCell ⟨b, 1, none⟩ (.slice none 0 0)).setCell ⟨b, 2, none⟩ (.int .i64 0)).cell? ⟨b, 0, none⟩ = some (.bool false) := by simp [go_sem, k0]
  have s1 : (((w1.setCell ⟨b, 0, none⟩ (.bool false)).setCell ⟨b, 1, none⟩ (.slice none 0 0)).setCell ⟨b, 2, none⟩ (.int .i64 0)).cell? ⟨b, 1, none⟩ = some (.slice none 0 0) := by simp [go_sem, k1]
  have s2 : (((w1.setCell ⟨b, 0, none⟩ (.bool false)).setCell ⟨b, 1, none⟩ (.slice none 0 0)).setCell ⟨b, 2, none⟩ (.int .i64 0)).cell? ⟨b, 2, none⟩ = some (.int .i64 0) := by simp [go_sem, k2]
  exact ⟨cellB s0 ((Below.refl _ _).alloc (Nat.le_refl _) o), cellB s1 ((Below.refl _ _).alloc (Nat.le_refl _) o), cellB s2 ((Below.refl _ _).alloc (Nat.le_refl _) o)⟩

theorem resA_err {A : Ans} {n : Nat} (hA : A = ⟨n, zP⟩) {w w' : World} (hb : Below w.heap.size w w') : ResA A w (.returned (.tuple #[.agg #[.bool false, .slice none 0 0, .int .i64 0], .int .i64 (n : Nat)])) w' := by
  subst hA
  exact ⟨none, 0, by show _ = Ending.returned (.tuple #[.agg #[.bool false, .slice none (dg 1000000000 0).length 0, .int .i64 0], .int .i64 (n : Nat)]); rw [dg_zero]; rfl, by show Own _ _ _ .u32 none 0 (dg 1000000000 0); rw [dg_zero]; exact Own.nilNone _ _ _ _, hb⟩

theorem prs_bounds {q : RS} (h : q.ds.length ≤ 1000) (hg : goodR q) : tz (dv q.ds) ≤ 30000 ∧ (dg 1000000000 (dv q.ds)).length ≤ 100000 := by
  have h3 : dv q.ds < 10 ^ q.ds.length := dv_lt hg.1
  have h4 : (dg 10 (dv q.ds)).length ≤ q.ds.length := dg_len_of_lt (by omega) h3
  have h5 := dg_len_9 (dv q.ds)
  refine ⟨?_, by omega⟩
  rcases Nat.eq_zero_or_pos (dv q.ds) with e | e
  · rw [e, tz_zero]; omega
  · have := tz_lt e h3; omega

set_option maxHeartbeats 8000000 in
set_option maxRecDepth 20000 in
theorem Parse_D (s : ByteArray) (w : World) (hs : s.size ≤ 140737488351232) (htab : Tab w) : Calls Tryz.prog 112 #[.string s] w (ResA (prsA s) w) := by
  have hR := fun W => read_any s W hs
  have HR := Lib.hid hR
  have HTAB := Lib.hid htab
  clear hR htab
  go_enter Tryz.func112, Tryz.ntmps112
  go_wp2_with fail
  refine (HR.out _).mono ?_
  rintro r w1 ⟨hb, h⟩
  have bb := ((Below.refl w.heap.size w).alloc (Nat.le_refl _) (.cells #[.bool false, .slice none 0 0, .int .i64 0] 127)).trans (hb.mono (by simp))
  have k0 : w1.cell? ⟨w.heap.size, 0, none⟩ = some (.bool false) := by rw [hb.cell (by simp)]; simp
  have k1 : w1.cell? ⟨w.heap.size, 1, none⟩ = some (.slice none 0 0) := by rw [hb.cell (by simp)]; simp
  have k2 : w1.cell? ⟨w.heap.size, 2, none⟩ = some (.int .i64 0) := by rw [hb.cell (by simp)]; simp
  have kf : ∀ j, w1.frozen? ⟨w.heap.size, j, none⟩ = false := fun j => by rw [hb.frozen (by simp)]; simp
  have hsz : w.heap.size < w1.heap.size := lt_of_cell k0
  have H0 := fun o : Obj => cellB k0 ((Below.refl w1.heap.size w1).alloc (Nat.le_refl _) o)
  have H1 := fun o : Obj => cellB k1 ((Below.refl w1.heap.size w1).alloc (Nat.le_refl _) o)
  have H2 := fun o : Obj => cellB k2 ((Below.refl w1.heap.size w1).alloc (Nat.le_refl _) o)
  rcases h with ⟨hn, rfl⟩ | ⟨q, a, c, hq, rfl, ho, hpw, hbe, hdl⟩
  · have hA : prsA s = ⟨2, zP⟩ := by unfold prsA; rw [hn]
    have HA := Lib.hid hA
    obtain ⟨z0, z1, z2⟩ := zeroRes k0 k1 k2 (.cells #[.bool false, .slice none 0 0, .int .i64 0, .bool false, .int .i64 0] 131)
    clear hn hA hb H0 H1 H2
    go_wp2
    refine bodyPost_ret (v := .tuple #[.agg #[.bool false, .slice none 0 0, .int .i64 0], .int .i64 2]) (by simp [results, Tryz.results112, go_sem, z0, z1, z2]) rfl ?_
    exact resA_err HA.out ((((bb.setCell (Nat.le_refl _) _).setCell (Nat.le_refl _) _).setCell (Nat.le_refl _) _).alloc (by simp; omega) _)
  · rcases hok : endOk q with _ | _
    · have hA : prsA s = ⟨2, zP⟩ := by unfold prsA; rw [hq]; show (if endOk q = true then _ else _) = _; rw [hok, if_neg Bool.false_ne_true]
      have hok' : decide (q.st = 3 ∨ q.st = 4 ∨ q.st = 6 ∨ q.st = 9) = false := hok
      rw [hok']
      have HA := Lib.hid hA
      obtain ⟨z0, z1, z2⟩ := zeroRes k0 k1 k2 (.cells #[.bool q.neg, .slice a q.ds.length c, .int .i64 (q.beh : Nat), .bool q.down, .int .i64 (q.pw : Nat)] 131)
      clear hA hok hok' hb ho hq H0 H1 H2
      go_wp2
      refine bodyPost_ret (v := .tuple #[.agg #[.bool false, .slice none 0 0, .int .i64 0], .int .i64 2]) (by simp [results, Tryz.results112, go_sem, z0, z1, z2]) rfl ?_
      exact resA_err HA.out ((((bb.setCell (Nat.le_refl _) _).setCell (Nat.le_refl _) _).setCell (Nat.le_refl _) _).alloc (by simp; omega) _)
    · have hok' : decide (q.st = 3 ∨ q.st = 4 ∨ q.st = 6 ∨ q.st = 9) = true := hok
      have hg := rrun_good s s.size 0 rs0 q ⟨fun c hc => (List.not_mem_nil hc).elim, Or.inl rfl⟩ hq
      have hokd := okD_good hg hok
      by_cases hlong : 1000 < s.size
      · have hA : prsA s = ⟨3, zP⟩ := by unfold prsA; rw [hq]; show (if endOk q = true then _ else _) = _; rw [hok, if_pos rfl, if_pos hlong]
        rw [hok']
        have HA := Lib.hid hA
        obtain ⟨z0, z1, z2⟩ := zeroRes k0 k1 k2 (.cells #[.bool q.neg, .slice a q.ds.length c, .int .i64 (q.beh : Nat), .bool q.down, .int .i64 (q.pw : Nat)] 131)
        clear hA hok hok' hb ho hq hg hokd H0 H1 H2
        go_wp2
        refine bodyPost_ret (v := .tuple #[.agg #[.bool false, .slice none 0 0, .int .i64 0], .int .i64 3]) (by simp [results, Tryz.results112, go_sem, z0, z1, z2]) rfl ?_
        exact resA_err HA.out ((((bb.setCell (Nat.le_refl _) _).setCell (Nat.le_refl _) _).setCell (Nat.le_refl _) _).alloc (by simp; omega) _)
      · have hA : prsA s = tellA q.neg (dv q.ds) (expo q) := by unfold prsA; rw [hq]; show (if endOk q = true then _ else _) = _; rw [hok, if_pos rfl, if_neg hlong]
        rw [hok']
        have HA := Lib.hid hA
        have hI : ¬ (1000 : Int) < (s.size : Int) := by omega
        obtain ⟨hv1, hv2⟩ := prs_bounds (q := q) (by omega) hg
        have HOK := Lib.hid hokd
        clear hA hok hok' hb hq hg H0 H1 H2
        rcases ho.shape with ⟨_, _, hn⟩ | ⟨g, hg, _⟩
        · exfalso
          have h1 : q.ds = [] := by have := congrArg List.length hn; rw [nb_length] at this; exact List.eq_nil_of_length_eq_zero this
          rw [h1] at hokd; revert hokd; decide
        subst hg
        have hown2 := ho.below (w' := w1.alloc (.cells #[.bool q.neg, .slice (some ⟨g, 0, none⟩) q.ds.length c, .int .i64 (q.beh : Nat), .bool q.down, .int .i64 (q.pw : Nat)] 131)) ((Below.refl _ _).alloc (Nat.le_refl _) _)
        have hcv := conv_back (P := Tryz.prog) (w1.alloc (.cells #[.bool q.neg, .slice (some ⟨g, 0, none⟩) q.ds.length c, .int .i64 (q.beh : Nat), .bool q.down, .int .i64 (q.pw : Nat)] 131)) 52 9 5 _ g c q.ds.length q.ds Tryz.underlying52 Tryz.underlying5 Tryz.underlying9 hown2 rfl
        have hP : ∀ W, Calls Tryz.prog 122 #[.string ⟨q.ds.toArray⟩] W fun e w' => ∃ a' cap', e = .returned (.tuple #[.slice a' (dg 1000000000 (dv q.ds)).length cap', .int .i64 0]) ∧ Own w' W.heap.size 141 .u32 a' cap' (dg 1000000000 (dv q.ds)) ∧ Below W.heap.size W w' :=
          fun W => Parse_ok (txt q.ds) W (by rw [txt_size]; omega) HOK.out
        have hT := fun e a c W h1 h2 hr ht => tell_any q.neg a c (dv q.ds) e W hv1 hv2 h1 h2 hr ht
        have HP := Lib.hid hP; have HT := Lib.hid hT
        clear hown2 ho hokd hP hT hv1 hv2
        rcases hdn : q.down with _ | _
        · rw [hdn] at hcv
          have hx : expo q = (q.pw : Int) - q.beh := by unfold expo; rw [hdn]; rfl
          go_wp2_with fail
          refine (HP.out _).mono ?_
          rintro r w3 ⟨a3, c3, rfl, ho3, hb3⟩
          have hb4 : Below w1.heap.size w1 w3 := ((Below.refl _ _).alloc (Nat.le_refl _) (.cells #[.bool q.neg, .slice (some ⟨g, 0, none⟩) q.ds.length c, .int .i64 (q.beh : Nat), .bool false, .int .i64 (q.pw : Nat)] 131)).trans (hb3.mono (by simp))
          have u0 : w3.cell? ⟨w1.heap.size, 0, none⟩ = some (.bool q.neg) := by rw [hb3.cell (by simp)]; simp
          have u2 : w3.cell? ⟨w1.heap.size, 2, none⟩ = some (.int .i64 (q.beh : Nat)) := by rw [hb3.cell (by simp)]; simp
          have r0 := cellB k0 hb4
          have r1 := cellB k1 hb4
          have r2 := cellB k2 hb4
          have rf : ∀ j, w3.frozen? ⟨w.heap.size, j, none⟩ = false := fun j => by rw [hb4.frozen (p := ⟨w.heap.size, j, none⟩) hsz]; exact kf j
          have bb4 := bb.trans (hb4.mono bb.size)
          have HX := Lib.hid hx; have HRD := Lib.hid ho3.rd
          have hsz3 : w.heap.size < w3.heap.size := lt_of_cell r0
          clear hx hcv hdn k0 k1 k2 kf hb3 hb4 bb ho3
          go_wp2_with fail
          refine (HT.out ((q.pw : Int) - q.beh) a3 c3 _ (by omega) (by omega) HRD.out (HTAB.out.below bb4)).mono ?_
          rintro e w5 ⟨a5, c5, rfl, hr5, hb6⟩
          have x0 := cellB r0 hb6
          have x1 := cellB r1 hb6
          have x2 := cellB r2 hb6
          have xf : ∀ j, w5.frozen? ⟨w.heap.size, j, none⟩ = false := fun j => by rw [hb6.frozen (p := ⟨w.heap.size, j, none⟩) hsz3]; exact rf j
          have ap := hr5.apart hsz3
          have bb5 := bb4.trans (hb6.mono bb4.size)
          have hown := hr5.mono bb4.size
          go_wp2
          have HA2 : prsA s = tellA q.neg (dv q.ds) ((q.pw : Int) - q.beh) := by rw [HA.out, HX.out]
          refine bodyPost_ret (v := .tuple #[.agg #[.bool (tellA q.neg (dv q.ds) ((q.pw : Int) - q.beh)).p.neg, .slice a5 (dg 1000000000 (tellA q.neg (dv q.ds) ((q.pw : Int) - q.beh)).p.m).length c5, .int .i64 (tellA q.neg (dv q.ds) ((q.pw : Int) - q.beh)).p.e], .int .i64 ((tellA q.neg (dv q.ds) ((q.pw : Int) - q.beh)).err : Nat)]) (by simp [results, Tryz.results112, go_sem, x0, x1, x2]) rfl ?_
          rw [HA2]
          exact ⟨a5, c5, rfl, ((hown.setFar ap _ _).setFar ap _ _).setFar ap _ _, ((bb5.setCell (Nat.le_refl _) _).setCell (Nat.le_refl _) _).setCell (Nat.le_refl _) _⟩
        · rw [hdn] at hcv
          have hx : expo q = -(q.pw : Int) - q.beh := by unfold expo; rw [hdn]; rfl
          go_wp2_with fail
          refine (HP.out _).mono ?_
          rintro r w3 ⟨a3, c3, rfl, ho3, hb3⟩
          have hb4 : Below w1.heap.size w1 w3 := ((Below.refl _ _).alloc (Nat.le_refl _) (.cells #[.bool q.neg, .slice (some ⟨g, 0, none⟩) q.ds.length c, .int .i64 (q.beh : Nat), .bool true, .int .i64 (q.pw : Nat)] 131)).trans (hb3.mono (by simp))
          have u0 : w3.cell? ⟨w1.heap.size, 0, none⟩ = some (.bool q.neg) := by rw [hb3.cell (by simp)]; simp
          have u2 : w3.cell? ⟨w1.heap.size, 2, none⟩ = some (.int .i64 (q.beh : Nat)) := by rw [hb3.cell (by simp)]; simp
          have r0 := cellB k0 hb4
          have r1 := cellB k1 hb4
          have r2 := cellB k2 hb4
          have rf : ∀ j, w3.frozen? ⟨w.heap.size, j, none⟩ = false := fun j => by rw [hb4.frozen (p := ⟨w.heap.size, j, none⟩) hsz]; exact kf j
          have bb4 := bb.trans (hb4.mono bb.size)
          have HX := Lib.hid hx; have HRD := Lib.hid ho3.rd
          have hsz3 : w.heap.size < w3.heap.size := lt_of_cell r0
          clear hx hcv hdn k0 k1 k2 kf hb3 hb4 bb ho3
          go_wp2_with fail
          refine (HT.out (-(q.pw : Int) - q.beh) a3 c3 _ (by omega) (by omega) HRD.out (HTAB.out.below bb4)).mono ?_
          rintro e w5 ⟨a5, c5, rfl, hr5, hb6⟩
          have x0 := cellB r0 hb6
          have x1 := cellB r1 hb6
          have x2 := cellB r2 hb6
          have xf : ∀ j, w5.frozen? ⟨w.heap.size, j, none⟩ = false := fun j => by rw [hb6.frozen (p := ⟨w.heap.size, j, none⟩) hsz3]; exact rf j
          have ap := hr5.apart hsz3
          have bb5 := bb4.trans (hb6.mono bb4.size)
          have hown := hr5.mono bb4.size
          go_wp2
          have HA2 : prsA s = tellA q.neg (dv q.ds) (-(q.pw : Int) - q.beh) := by rw [HA.out, HX.out]
          refine bodyPost_ret (v := .tuple #[.agg #[.bool (tellA q.neg (dv q.ds) (-(q.pw : Int) - q.beh)).p.neg, .slice a5 (dg 1000000000 (tellA q.neg (dv q.ds) (-(q.pw : Int) - q.beh)).p.m).length c5, .int .i64 (tellA q.neg (dv q.ds) (-(q.pw : Int) - q.beh)).p.e], .int .i64 ((tellA q.neg (dv q.ds) (-(q.pw : Int) - q.beh)).err : Nat)]) (by simp [results, Tryz.results112, go_sem, x0, x1, x2]) rfl ?_
          rw [HA2]
          exact ⟨a5, c5, rfl, ((hown.setFar ap _ _).setFar ap _ _).setFar ap _ _, ((bb5.setCell (Nat.le_refl _) _).setCell (Nat.le_refl _) _).setCell (Nat.le_refl _) _⟩
end Go.Proofs.YtpgiljibicigeaaGreatDoor
