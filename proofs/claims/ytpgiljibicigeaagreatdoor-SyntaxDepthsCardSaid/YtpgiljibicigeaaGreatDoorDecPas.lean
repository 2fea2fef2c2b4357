/- Walk of dec.Parse. -/
import Derived.Test.YtpgiljibicigeaaGreatDoorDecSr
import Derived.Test.YtpgiljibicigeaaGreatDoorLimbGs
import Derived.WalkKit
set_option linter.unusedVariables false
set_option linter.unusedSimpArgs false
namespace Go.Proofs.YtpgiljibicigeaaGreatDoor
open Go.RowKit LM

def expo (q : RS) : Int := (if q.down then -(q.pw : Int) else q.pw) - q.beh
def endOk (q : RS) : Bool := decide (q.st = 3 ∨ q.st = 4 ∨ q.st = 6 ∨ q.st = 9)
def prsA (s : ByteArray) : Ans :=
  match rrun s s.size 0 rs0 with
  | none => ⟨2, zP⟩
  | some q => if endOk q = true then (if 1000 < s.size then ⟨3, zP⟩ else tellA q.neg (dv q.ds) (expo q)) else ⟨2, zP⟩

def goodR (q : RS) : Prop := (∀ c ∈ q.ds, isD c = true) ∧ (q.st = 1 ∨ q.st = 2 ∨ q.ds ≠ [])

theorem isD_of {c : Nat} (h1 : 48 ≤ (c : Int)) (h2 : (c : Int) ≤ 57) : isD (UInt8.ofNat c) = true := by
  have e : (UInt8.ofNat c).toNat = c := by simp; omega
  unfold isD; rw [e]; simp; omega

theorem nx_back (st c : Int) (h : nx st c = 5 ∨ nx st c = 7 ∨ nx st c = 8 ∨ nx st c = 9) : st ≠ 1 ∧ st ≠ 2 := by
  unfold nx nd at h
  repeat' split at h
  all_goals omega

theorem good_step {q : RS} {c : Nat} (h : goodR q) (h0 : nx q.st c ≠ 0) : goodR (rupd q c) := by
  obtain ⟨hd, hn⟩ := h
  have hb := nx_back q.st c
  rcases nx_rng q.st c with ht | ht | ⟨ht | ht | ht | ht, g1, g2⟩ | ht | ht | ht
  · exact absurd ht h0
  · rw [rupd_at q c ht]; exact ⟨hd, .inr (.inl rfl)⟩
  · rw [rupd_at q c ht]; exact ⟨fun x hx => by simp at hx; rcases hx with hx | rfl; exact hd x hx; exact isD_of g1 g2, .inr (.inr (by simp))⟩
  · rw [rupd_at q c ht]; exact ⟨fun x hx => by simp at hx; rcases hx with hx | rfl; exact hd x hx; exact isD_of g1 g2, .inr (.inr (by simp))⟩
  · rw [rupd_at q c ht]; exact ⟨fun x hx => by simp at hx; rcases hx with hx | rfl; exact hd x hx; exact isD_of g1 g2, .inr (.inr (by simp))⟩
  · rw [rupd_at q c ht]; have := hb (by omega); exact ⟨hd, .inr (.inr (by rcases hn with h | h | h; exact absurd h this.1; exact absurd h this.2; exact h))⟩
  · rw [rupd_at q c ht]; have := hb (by omega); exact ⟨hd, .inr (.inr (by rcases hn with h | h | h; exact absurd h this.1; exact absurd h this.2; exact h))⟩
  · rw [rupd_at q c ht]; have := hb (by omega); exact ⟨hd, .inr (.inr (by rcases hn with h | h | h; exact absurd h this.1; exact absurd h this.2; exact h))⟩
  · rw [rupd_at q c ht]; have := hb (by omega); exact ⟨hd, .inr (.inr (by rcases hn with h | h | h; exact absurd h this.1; exact absurd h this.2; exact h))⟩

theorem rrun_good (s : ByteArray) : ∀ f pos q q', goodR q → rrun s f pos q = some q' → goodR q' := by
  intro f
  induction f with
  | zero => intro pos q q' h e; cases e; exact h
  | succ f ih =>
    intro pos q q' h e
    rw [rrun] at e
    split at e
    · split at e
      · cases e
      · rename_i h1 h2; exact ih _ _ _ (good_step h h2) e
    · cases e; exact h

theorem okD_good {q : RS} (h : goodR q) (he : endOk q = true) : okD (txt q.ds) = true := by
  have h1 := of_decide_eq_true he
  unfold okD
  rw [txt_list]
  have h2 : q.ds ≠ [] := by rcases h.2 with e | e | e; omega; omega; exact e
  have h3 : q.ds.all isD = true := List.all_eq_true.2 h.1
  rw [h3]; cases hd : q.ds with
  | nil => exact absurd hd h2
  | cons a l => rfl

theorem zeroRes {w1 : World} {b : Nat} {x0 x1 x2 : Value} (k0 : w1.cell? ⟨b, 0, none⟩ = some x0) (k1 : w1.cell? ⟨b, 1, none⟩ = some x1) (k2 : w1.cell? ⟨b, 2, none⟩ = some x2) (o : Obj) :
    ((((w1.setCell ⟨b, 0, none⟩ (.bool false)).setCell ⟨b, 1, none⟩ (.slice none 0 0)).setCell ⟨b, 2, none⟩ (.int .i64 0)).alloc o).cell? ⟨b, 0, none⟩ = some (.bool false) ∧
    ((((w1.setCell ⟨b, 0, none⟩ (.bool false)).setCell ⟨b, 1, none⟩ (.slice none 0 0)).setCell ⟨b, 2, none⟩ (.int .i64 0)).alloc o).cell? ⟨b, 1, none⟩ = some (.slice none 0 0) ∧
    ((((w1.setCell ⟨b, 0, none⟩ (.bool false)).setCell ⟨b, 1, none⟩ (.slice none 0 0)).setCell ⟨b, 2, none⟩ (.int .i64 0)).alloc o).cell? ⟨b, 2, none⟩ = some (.int .i64 0) := by
  have s0 : (((w1.setCell ⟨b, 0, none⟩ (.bool false)).setCell ⟨b, 1, none⟩ (.slice none 0 0)).setCell ⟨b, 2, none⟩ (.int .i64 0)).cell? ⟨b, 0, none⟩ = some (.bool false) := by simp [go_sem, k0]
  have s1 : (((w1.setCell ⟨b, 0, none⟩ (.bool false)).setCell ⟨b, 1, none⟩ (.slice none 0 0)).setCell ⟨b, 2, none⟩ (.int .i64 0)).cell? ⟨b, 1, none⟩ = some (.slice none 0 0) := by simp [go_sem, k1]
  have s2 : (((w1.setCell ⟨b, 0, none⟩ (.bool false)).setCell ⟨b, 1, none⟩ (.slice none 0 0)).setCell ⟨b, 2, none⟩ (.int .i64 0)).cell? ⟨b, 2, none⟩ = some (.int .i64 0) := by simp [go_sem, k2]
  exact ⟨cellB s0 ((Below.refl _ _).alloc (Nat.le_refl _) o), cellB s1 ((Below.refl _ _).alloc (Nat.le_refl _) o), cellB s2 ((Below.refl _ _).alloc (Nat.le_refl _) o)⟩

theorem resA_err {A : Ans} {n : Nat} (hA : A = ⟨n, zP⟩) {w w' : World} (hb : Below w.heap.size w w') : ResA A w (.returned (.tuple #[.agg #[.bool false, .slice none 0 0, .int .i64 0], .int .i64 (n : Nat)])) w' := by
  subst hA
  exact ⟨none, 0, by show _ = Ending.returned (.tuple #[.agg #[.bool false, .slice none (dg 1000000000 0).length 0, .int .i64 0], .int .i64 (n : Nat)]); rw [dg_zero]; rfl, by show Own _ _ _ .u32 none 0 (dg 1000000000 0); rw [dg_zero]; exact Own.nilNone _ _ _ _, hb⟩

theorem prs_bounds {q : RS} (h : q.ds.length ≤ 1000) (hg : goodR q) : tz (dv q.ds) ≤ 30000 ∧ (dg 1000000000 (dv q.ds)).length ≤ 100000 := by
  have h3 : dv q.ds < 10 ^ q.ds.length := dv_lt hg.1
  have h4 : (dg 10 (dv q.ds)).length ≤ q.ds.length := dg_len_of_lt (by omega) h3
  have h5 := dg_len_9 (dv q.ds)
  refine ⟨?_, by omega⟩
  rcases Nat.eq_zero_or_pos (dv q.ds) with e | e
  · rw [e, tz_zero]; omega
  · have := tz_lt e h3; omega

set_option maxHeartbeats 8000000 in
set_option maxRecDepth 20000 in
theorem Parse_D (s : ByteArray) (w : World) (hs : s.size ≤ 140737488351232) (htab : Tab w) : Calls Tryz.prog 112 #[.string s] w (ResA (prsA s) w) := by
  have hR := fun W => read_any s W hs
  have HR := Lib.hid hR
  have HTAB := Lib.hid htab
  clear hR htab
  go_enter Tryz.func112, Tryz.ntmps112
  go_wp2_with fail
  refine (HR.out _).mono ?_
  rintro r w1 ⟨hb, h⟩
  have bb := ((Below.refl w.heap.size w).alloc (Nat.le_refl _) (.cells #[.bool false, .slice none 0 0, .int .i64 0] 127)).trans (hb.mono (by simp))
  have k0 : w1.cell? ⟨w.heap.size, 0, none⟩ = some (.bool false) := by rw [hb.cell (by simp)]; simp
  have k1 : w1.cell? ⟨w.heap.size, 1, none⟩ = some (.slice none 0 0) := by rw [hb.cell (by simp)]; simp
  have k2 : w1.cell? ⟨w.heap.size, 2, none⟩ = some (.int .i64 0) := by rw [hb.cell (by simp)]; simp
  have kf : ∀ j, w1.frozen? ⟨w.heap.size, j, none⟩ = false := fun j => by rw [hb.frozen (by simp)]; simp
  have hsz : w.heap.size < w1.heap.size := lt_of_cell k0
  have H0 := fun o : Obj => cellB k0 ((Below.refl w1.heap.size w1).alloc (Nat.le_refl _) o)
  have H1 := fun o : Obj => cellB k1 ((Below.refl w1.heap.size w1).alloc (Nat.le_refl _) o)
  have H2 := fun o : Obj => cellB k2 ((Below.refl w1.heap.size w1).alloc (Nat.le_refl _) o)
  rcases h with ⟨hn, rfl⟩ | ⟨q, a, c, hq, rfl, ho, hpw, hbe, hdl⟩
  · have hA : prsA s = ⟨2, zP⟩ := by unfold prsA; rw [hn]
    have HA := Lib.hid hA
    obtain ⟨z0, z1, z2⟩ := zeroRes k0 k1 k2 (.cells #[.bool false, .slice none 0 0, .int .i64 0, .bool false, .int .i64 0] 131)
    clear hn hA hb H0 H1 H2
    go_wp2
    refine bodyPost_ret (v := .tuple #[.agg #[.bool false, .slice none 0 0, .int .i64 0], .int .i64 2]) (by simp [results, Tryz.results112, go_sem, z0, z1, z2]) rfl ?_
    exact resA_err HA.out ((((bb.setCell (Nat.le_refl _) _).setCell (Nat.le_refl _) _).setCell (Nat.le_refl _) _).alloc (by simp; omega) _)
  · rcases hok : endOk q with _ | _
    · have hA : prsA s = ⟨2, zP⟩ := by unfold prsA; rw [hq]; show (if endOk q = true then _ else _) = _; rw [hok, if_neg Bool.false_ne_true]
      have hok' : decide (q.st = 3 ∨ q.st = 4 ∨ q.st = 6 ∨ q.st = 9) = false := hok
      rw [hok']
      have HA := Lib.hid hA
      obtain ⟨z0, z1, z2⟩ := zeroRes k0 k1 k2 (.cells #[.bool q.neg, .slice a q.ds.length c, .int .i64 (q.beh : Nat), .bool q.down, .int .i64 (q.pw : Nat)] 131)
      clear hA hok hok' hb ho hq H0 H1 H2
      go_wp2
      refine bodyPost_ret (v := .tuple #[.agg #[.bool false, .slice none 0 0, .int .i64 0], .int .i64 2]) (by simp [results, Tryz.results112, go_sem, z0, z1, z2]) rfl ?_
      exact resA_err HA.out ((((bb.setCell (Nat.le_refl _) _).setCell (Nat.le_refl _) _).setCell (Nat.le_refl _) _).alloc (by simp; omega) _)
    · have hok' : decide (q.st = 3 ∨ q.st = 4 ∨ q.st = 6 ∨ q.st = 9) = true := hok
      have hg := rrun_good s s.size 0 rs0 q ⟨fun c hc => (List.not_mem_nil hc).elim, Or.inl rfl⟩ hq
      have hokd := okD_good hg hok
      by_cases hlong : 1000 < s.size
      · have hA : prsA s = ⟨3, zP⟩ := by unfold prsA; rw [hq]; show (if endOk q = true then _ else _) = _; rw [hok, if_pos rfl, if_pos hlong]
        rw [hok']
        have HA := Lib.hid hA
        obtain ⟨z0, z1, z2⟩ := zeroRes k0 k1 k2 (.cells #[.bool q.neg, .slice a q.ds.length c, .int .i64 (q.beh : Nat), .bool q.down, .int .i64 (q.pw : Nat)] 131)
        clear hA hok hok' hb ho hq hg hokd H0 H1 H2
        go_wp2
        refine bodyPost_ret (v := .tuple #[.agg #[.bool false, .slice none 0 0, .int .i64 0], .int .i64 3]) (by simp [results, Tryz.results112, go_sem, z0, z1, z2]) rfl ?_
        exact resA_err HA.out ((((bb.setCell (Nat.le_refl _) _).setCell (Nat.le_refl _) _).setCell (Nat.le_refl _) _).alloc (by simp; omega) _)
      · have hA : prsA s = tellA q.neg (dv q.ds) (expo q) := by unfold prsA; rw [hq]; show (if endOk q = true then _ else _) = _; rw [hok, if_pos rfl, if_neg hlong]
        rw [hok']
        have HA := Lib.hid hA
        have hI : ¬ (1000 : Int) < (s.size : Int) := by omega
        obtain ⟨hv1, hv2⟩ := prs_bounds (q := q) (by omega) hg
        have HOK := Lib.hid hokd
        clear hA hok hok' hb hq hg H0 H1 H2
        rcases ho.shape with ⟨_, _, hn⟩ | ⟨g, hg, _⟩
        · exfalso
          have h1 : q.ds = [] := by have := congrArg List.length hn; rw [nb_length] at this; exact List.eq_nil_of_length_eq_zero this
          rw [h1] at hokd; revert hokd; decide
        subst hg
        have hown2 := ho.below (w' := w1.alloc (.cells #[.bool q.neg, .slice (some ⟨g, 0, none⟩) q.ds.length c, .int .i64 (q.beh : Nat), .bool q.down, .int .i64 (q.pw : Nat)] 131)) ((Below.refl _ _).alloc (Nat.le_refl _) _)
        have hcv := conv_back (P := Tryz.prog) (w1.alloc (.cells #[.bool q.neg, .slice (some ⟨g, 0, none⟩) q.ds.length c, .int .i64 (q.beh : Nat), .bool q.down, .int .i64 (q.pw : Nat)] 131)) 52 9 5 _ g c q.ds.length q.ds Tryz.underlying52 Tryz.underlying5 Tryz.underlying9 hown2 rfl
        have hP : ∀ W, Calls Tryz.prog 122 #[.string ⟨q.ds.toArray⟩] W fun e w' => ∃ a' cap', e = .returned (.tuple #[.slice a' (dg 1000000000 (dv q.ds)).length cap', .int .i64 0]) ∧ Own w' W.heap.size 141 .u32 a' cap' (dg 1000000000 (dv q.ds)) ∧ Below W.heap.size W w' :=
          fun W => Parse_ok (txt q.ds) W (by rw [txt_size]; omega) HOK.out
        have hT := fun e a c W h1 h2 hr ht => tell_any q.neg a c (dv q.ds) e W hv1 hv2 h1 h2 hr ht
        have HP := Lib.hid hP; have HT := Lib.hid hT
        clear hown2 ho hokd hP hT hv1 hv2
        rcases hdn : q.down with _ | _
        · rw [hdn] at hcv
          have hx : expo q = (q.pw : Int) - q.beh := by unfold expo; rw [hdn]; rfl
          go_wp2_with fail
          refine (HP.out _).mono ?_
          rintro r w3 ⟨a3, c3, rfl, ho3, hb3⟩
          have hb4 : Below w1.heap.size w1 w3 := ((Below.refl _ _).alloc (Nat.le_refl _) (.cells #[.bool q.neg, .slice (some ⟨g, 0, none⟩) q.ds.length c, .int .i64 (q.beh : Nat), .bool false, .int .i64 (q.pw : Nat)] 131)).trans (hb3.mono (by simp))
          have u0 : w3.cell? ⟨w1.heap.size, 0, none⟩ = some (.bool q.neg) := by rw [hb3.cell (by simp)]; simp
          have u2 : w3.cell? ⟨w1.heap.size, 2, none⟩ = some (.int .i64 (q.beh : Nat)) := by rw [hb3.cell (by simp)]; simp
          have r0 := cellB k0 hb4
          have r1 := cellB k1 hb4
          have r2 := cellB k2 hb4
          have rf : ∀ j, w3.frozen? ⟨w.heap.size, j, none⟩ = false := fun j => by rw [hb4.frozen (p := ⟨w.heap.size, j, none⟩) hsz]; exact kf j
          have bb4 := bb.trans (hb4.mono bb.size)
          have HX := Lib.hid hx; have HRD := Lib.hid ho3.rd
          have hsz3 : w.heap.size < w3.heap.size := lt_of_cell r0
          clear hx hcv hdn k0 k1 k2 kf hb3 hb4 bb ho3
          go_wp2_with fail
          refine (HT.out ((q.pw : Int) - q.beh) a3 c3 _ (by omega) (by omega) HRD.out (HTAB.out.below bb4)).mono ?_
          rintro e w5 ⟨a5, c5, rfl, hr5, hb6⟩
          have x0 := cellB r0 hb6
          have x1 := cellB r1 hb6
          have x2 := cellB r2 hb6
          have xf : ∀ j, w5.frozen? ⟨w.heap.size, j, none⟩ = false := fun j => by rw [hb6.frozen (p := ⟨w.heap.size, j, none⟩) hsz3]; exact rf j
          have ap := hr5.apart hsz3
          have bb5 := bb4.trans (hb6.mono bb4.size)
          have hown := hr5.mono bb4.size
          go_wp2
          have HA2 : prsA s = tellA q.neg (dv q.ds) ((q.pw : Int) - q.beh) := by rw [HA.out, HX.out]
          refine bodyPost_ret (v := .tuple #[.agg #[.bool (tellA q.neg (dv q.ds) ((q.pw : Int) - q.beh)).p.neg, .slice a5 (dg 1000000000 (tellA q.neg (dv q.ds) ((q.pw : Int) - q.beh)).p.m).length c5, .int .i64 (tellA q.neg (dv q.ds) ((q.pw : Int) - q.beh)).p.e], .int .i64 ((tellA q.neg (dv q.ds) ((q.pw : Int) - q.beh)).err : Nat)]) (by simp [results, Tryz.results112, go_sem, x0, x1, x2]) rfl ?_
          rw [HA2]
          exact ⟨a5, c5, rfl, ((hown.setFar ap _ _).setFar ap _ _).setFar ap _ _, ((bb5.setCell (Nat.le_refl _) _).setCell (Nat.le_refl _) _).setCell (Nat.le_refl _) _⟩
        · rw [hdn] at hcv
          have hx : expo q = -(q.pw : Int) - q.beh := by unfold expo; rw [hdn]; rfl
          go_wp2_with fail
          refine (HP.out _).mono ?_
          rintro r w3 ⟨a3, c3, rfl, ho3, hb3⟩
          have hb4 : Below w1.heap.size w1 w3 := ((Below.refl _ _).alloc (Nat.le_refl _) (.cells #[.bool q.neg, .slice (some ⟨g, 0, none⟩) q.ds.length c, .int .i64 (q.beh : Nat), .bool true, .int .i64 (q.pw : Nat)] 131)).trans (hb3.mono (by simp))
          have u0 : w3.cell? ⟨w1.heap.size, 0, none⟩ = some (.bool q.neg) := by rw [hb3.cell (by simp)]; simp
          have u2 : w3.cell? ⟨w1.heap.size, 2, none⟩ = some (.int .i64 (q.beh : Nat)) := by rw [hb3.cell (by simp)]; simp
          have r0 := cellB k0 hb4
          have r1 := cellB k1 hb4
          have r2 := cellB k2 hb4
          have rf : ∀ j, w3.frozen? ⟨w.heap.size, j, none⟩ = false := fun j => by rw [hb4.frozen (p := ⟨w.heap.size, j, none⟩) hsz]; exact kf j
          have bb4 := bb.trans (hb4.mono bb.size)
          have HX := Lib.hid hx; have HRD := Lib.hid ho3.rd
          have hsz3 : w.heap.size < w3.heap.size := lt_of_cell r0
          clear hx hcv hdn k0 k1 k2 kf hb3 hb4 bb ho3
          go_wp2_with fail
          refine (HT.out (-(q.pw : Int) - q.beh) a3 c3 _ (by omega) (by omega) HRD.out (HTAB.out.below bb4)).mono ?_
          rintro e w5 ⟨a5, c5, rfl, hr5, hb6⟩
          have x0 := cellB r0 hb6
          have x1 := cellB r1 hb6
          have x2 := cellB r2 hb6
          have xf : ∀ j, w5.frozen? ⟨w.heap.size, j, none⟩ = false := fun j => by rw [hb6.frozen (p := ⟨w.heap.size, j, none⟩) hsz3]; exact rf j
          have ap := hr5.apart hsz3
          have bb5 := bb4.trans (hb6.mono bb4.size)
          have hown := hr5.mono bb4.size
          go_wp2
          have HA2 : prsA s = tellA q.neg (dv q.ds) (-(q.pw : Int) - q.beh) := by rw [HA.out, HX.out]
          refine bodyPost_ret (v := .tuple #[.agg #[.bool (tellA q.neg (dv q.ds) (-(q.pw : Int) - q.beh)).p.neg, .slice a5 (dg 1000000000 (tellA q.neg (dv q.ds) (-(q.pw : Int) - q.beh)).p.m).length c5, .int .i64 (tellA q.neg (dv q.ds) (-(q.pw : Int) - q.beh)).p.e], .int .i64 ((tellA q.neg (dv q.ds) (-(q.pw : Int) - q.beh)).err : Nat)]) (by simp [results, Tryz.results112, go_sem, x0, x1, x2]) rfl ?_
          rw [HA2]
          exact ⟨a5, c5, rfl, ((hown.setFar ap _ _).setFar ap _ _).setFar ap _ _, ((bb5.setCell (Nat.le_refl _) _).setCell (Nat.le_refl _) _).setCell (Nat.le_refl _) _⟩
end Go.Proofs.YtpgiljibicigeaaGreatDoor

/- Plain mathematics of code points and their bytes: a code point's bytes, what bytes begin with, a text's code points, order. Nothing of the program. -/
namespace Go.Proofs.YtpgiljibicigeaaGreatDoor.UM

/-- a code point -/
def Pt (p : Nat) : Prop := p ≤ 1114111 ∧ (p < 55296 ∨ 57343 < p)
instance (p : Nat) : Decidable (Pt p) := by unfold Pt; infer_instance
/-- its bytes -/
def enc (p : Nat) : List Nat :=
  if p < 128 then [p] else if p < 2048 then [192 + p / 64, 128 + p % 64]
  else if p < 65536 then [224 + p / 4096, 128 + p / 64 % 64, 128 + p % 64]
  else [240 + p / 262144, 128 + p / 4096 % 64, 128 + p / 64 % 64, 128 + p % 64]
def en (p : Nat) : Nat := if p < 128 then 1 else if p < 2048 then 2 else if p < 65536 then 3 else 4
theorem enc_len (p : Nat) : (enc p).length = en p := by unfold enc en; repeat' split
                                                        all_goals rfl
theorem en_pos (p : Nat) : 1 ≤ en p ∧ en p ≤ 4 := by unfold en; repeat' split
                                                     all_goals omega
theorem enc1 {p : Nat} (h : p < 128) : enc p = [p] := by unfold enc; rw [if_pos h]
theorem enc2 {p : Nat} (h : ¬ p < 128) (h2 : p < 2048) : enc p = [192 + p / 64, 128 + p % 64] := by unfold enc; rw [if_neg h, if_pos h2]
theorem enc3 {p : Nat} (h : ¬ p < 2048) (h2 : p < 65536) : enc p = [224 + p / 4096, 128 + p / 64 % 64, 128 + p % 64] := by unfold enc; rw [if_neg (by omega), if_neg h, if_pos h2]
theorem enc4 {p : Nat} (h : ¬ p < 65536) : enc p = [240 + p / 262144, 128 + p / 4096 % 64, 128 + p / 64 % 64, 128 + p % 64] := by unfold enc; rw [if_neg (by omega), if_neg (by omega), if_neg h]
theorem enc_lo {p : Nat} (h : p ≤ 1114111) : ∀ x ∈ enc p, x < 256 := by
  intro x hx
  unfold enc at hx
  repeat' split at hx
  all_goals simp only [List.mem_cons, List.not_mem_nil, or_false] at hx
  all_goals omega

def bad : Nat × Nat × Bool := (65533, 1, false)
/-- what bytes begin with: the code point, its bytes' number, whether there is one -/
def dcd : List Nat → Nat × Nat × Bool
  | [] => (65533, 0, false)
  | a :: t =>
    if a < 128 then (a, 1, true)
    else if a / 32 = 6 then
      match t with
      | b :: _ => if b / 64 = 2 ∧ 128 ≤ a % 32 * 64 + b % 64 then (a % 32 * 64 + b % 64, 2, true) else bad
      | _ => bad
    else if a / 16 = 14 then
      match t with
      | b :: c :: _ => if b / 64 = 2 ∧ c / 64 = 2 ∧ 2048 ≤ a % 16 * 4096 + b % 64 * 64 + c % 64 ∧ Pt (a % 16 * 4096 + b % 64 * 64 + c % 64) then (a % 16 * 4096 + b % 64 * 64 + c % 64, 3, true) else bad
      | _ => bad
    else if a / 8 = 30 then
      match t with
      | b :: c :: d :: _ => if b / 64 = 2 ∧ c / 64 = 2 ∧ d / 64 = 2 ∧ 65536 ≤ a % 8 * 262144 + b % 64 * 4096 + c % 64 * 64 + d % 64 ∧ Pt (a % 8 * 262144 + b % 64 * 4096 + c % 64 * 64 + d % 64) then (a % 8 * 262144 + b % 64 * 4096 + c % 64 * 64 + d % 64, 4, true) else bad
      | _ => bad
    else bad

theorem dcd_enc {p : Nat} (hp : Pt p) (t : List Nat) : dcd (enc p ++ t) = (p, en p, true) := by
  have hp' := hp
  obtain ⟨h1, h2⟩ := hp'
  unfold en
  by_cases c1 : p < 128
  · rw [enc1 c1, if_pos c1]; simp only [List.cons_append, List.nil_append, dcd]; rw [if_pos c1]
  by_cases c2 : p < 2048
  · rw [enc2 c1 c2, if_neg c1, if_pos c2]; simp only [List.cons_append, List.nil_append, dcd]
    have e1 : (192 + p / 64) % 32 * 64 + (128 + p % 64) % 64 = p := by omega
    rw [if_neg (by omega), if_pos (by omega), e1, if_pos (by omega)]
  by_cases c3 : p < 65536
  · rw [enc3 c2 c3, if_neg c1, if_neg c2, if_pos c3]; simp only [List.cons_append, List.nil_append, dcd]
    have e1 : (224 + p / 4096) % 16 * 4096 + (128 + p / 64 % 64) % 64 * 64 + (128 + p % 64) % 64 = p := by omega
    rw [if_neg (by omega), if_neg (by omega), if_pos (by omega), e1, if_pos ⟨by omega, by omega, by omega, hp⟩]
  · rw [enc4 c3, if_neg c1, if_neg c2, if_neg c3]; simp only [List.cons_append, List.nil_append, dcd]
    have e1 : (240 + p / 262144) % 8 * 262144 + (128 + p / 4096 % 64) % 64 * 4096 + (128 + p / 64 % 64) % 64 * 64 + (128 + p % 64) % 64 = p := by omega
    rw [if_neg (by omega), if_neg (by omega), if_neg (by omega), if_pos (by omega), e1, if_pos ⟨by omega, by omega, by omega, by omega, hp⟩]

/-- either they begin with a code point, or not -/
theorem dcd_cases (l : List Nat) : (∃ p t, Pt p ∧ l = enc p ++ t ∧ dcd l = (p, en p, true)) ∨ (l = [] ∧ dcd l = (65533, 0, false)) ∨ (l ≠ [] ∧ dcd l = (65533, 1, false)) := by
  have key : ∀ p t, Pt p → l = enc p ++ t → ∃ p t, Pt p ∧ l = enc p ++ t ∧ dcd l = (p, en p, true) := fun p t hp e => ⟨p, t, hp, e, by rw [e]; exact dcd_enc hp t⟩
  rcases l with _ | ⟨a, t⟩
  · exact .inr (.inl ⟨rfl, rfl⟩)
  by_cases c1 : a < 128
  · exact .inl (key a t ⟨by omega, by omega⟩ (by rw [enc1 c1]; rfl))
  by_cases c2 : a / 32 = 6
  · rcases t with _ | ⟨b, t⟩
    · refine .inr (.inr ⟨by simp, ?_⟩); simp only [dcd]; rw [if_neg c1, if_pos c2]; rfl
    by_cases g : b / 64 = 2 ∧ 128 ≤ a % 32 * 64 + b % 64
    · exact .inl (key (a % 32 * 64 + b % 64) t ⟨by omega, by omega⟩ (by rw [enc2 (by omega) (by omega)]; simp only [List.cons_append, List.nil_append, List.cons.injEq, and_true]; omega))
    · refine .inr (.inr ⟨by simp, ?_⟩); simp only [dcd]; rw [if_neg c1, if_pos c2, if_neg g]; rfl
  by_cases c3 : a / 16 = 14
  · rcases t with _ | ⟨b, _ | ⟨c, t⟩⟩
    · refine .inr (.inr ⟨by simp, ?_⟩); simp only [dcd]; rw [if_neg c1, if_neg c2, if_pos c3]; rfl
    · refine .inr (.inr ⟨by simp, ?_⟩); simp only [dcd]; rw [if_neg c1, if_neg c2, if_pos c3]; rfl
    by_cases g : b / 64 = 2 ∧ c / 64 = 2 ∧ 2048 ≤ a % 16 * 4096 + b % 64 * 64 + c % 64 ∧ Pt (a % 16 * 4096 + b % 64 * 64 + c % 64)
    · exact .inl (key (a % 16 * 4096 + b % 64 * 64 + c % 64) t g.2.2.2 (by rw [enc3 (by omega) (by omega)]; simp only [List.cons_append, List.nil_append, List.cons.injEq, and_true]; omega))
    · refine .inr (.inr ⟨by simp, ?_⟩); simp only [dcd]; rw [if_neg c1, if_neg c2, if_pos c3, if_neg g]; rfl
  by_cases c4 : a / 8 = 30
  · rcases t with _ | ⟨b, _ | ⟨c, _ | ⟨d, t⟩⟩⟩
    · refine .inr (.inr ⟨by simp, ?_⟩); simp only [dcd]; rw [if_neg c1, if_neg c2, if_neg c3, if_pos c4]; rfl
    · refine .inr (.inr ⟨by simp, ?_⟩); simp only [dcd]; rw [if_neg c1, if_neg c2, if_neg c3, if_pos c4]; rfl
    · refine .inr (.inr ⟨by simp, ?_⟩); simp only [dcd]; rw [if_neg c1, if_neg c2, if_neg c3, if_pos c4]; rfl
    by_cases g : b / 64 = 2 ∧ c / 64 = 2 ∧ d / 64 = 2 ∧ 65536 ≤ a % 8 * 262144 + b % 64 * 4096 + c % 64 * 64 + d % 64 ∧ Pt (a % 8 * 262144 + b % 64 * 4096 + c % 64 * 64 + d % 64)
    · exact .inl (key (a % 8 * 262144 + b % 64 * 4096 + c % 64 * 64 + d % 64) t g.2.2.2.2 (by rw [enc4 (by omega)]; simp only [List.cons_append, List.nil_append, List.cons.injEq, and_true]; omega))
    · refine .inr (.inr ⟨by simp, ?_⟩); simp only [dcd]; rw [if_neg c1, if_neg c2, if_neg c3, if_pos c4, if_neg g]; rfl
  · refine .inr (.inr ⟨by simp, ?_⟩); simp only [dcd]; rw [if_neg c1, if_neg c2, if_neg c3, if_neg c4]; rfl

theorem pt_bad : Pt 65533 := by decide
theorem dcd_pt (l : List Nat) : Pt (dcd l).1 := by
  rcases dcd_cases l with ⟨p, t, hp, _, e⟩ | ⟨_, e⟩ | ⟨_, e⟩ <;> rw [e]
  · exact hp
  · exact pt_bad
  · exact pt_bad
theorem dcd_wd {l : List Nat} (h : l ≠ []) : 1 ≤ (dcd l).2.1 ∧ (dcd l).2.1 ≤ l.length := by
  rcases dcd_cases l with ⟨p, t, hp, e0, e⟩ | ⟨e0, e⟩ | ⟨_, e⟩ <;> rw [e]
  · have := enc_len p
    have h1 := en_pos p
    rw [e0]; simp only [List.length_append]; omega
  · exact absurd e0 h
  · have : 0 < l.length := List.length_pos_iff.2 h
    simp only; omega

/-- a text's code points -/
def xpF : Nat → List Nat → List Nat
  | 0, _ => []
  | n + 1, l => if l = [] then [] else (dcd l).1 :: xpF n (l.drop (dcd l).2.1)
def xp (l : List Nat) : List Nat := xpF l.length l
theorem xpF_more : ∀ (n m : Nat) (l : List Nat), l.length ≤ n → l.length ≤ m → xpF n l = xpF m l
  | 0, m, l, h, _ => by
    obtain rfl : l = [] := List.length_eq_zero_iff.1 (by omega)
    cases m <;> rfl
  | n + 1, 0, l, _, h => by
    obtain rfl : l = [] := List.length_eq_zero_iff.1 (by omega)
    rfl
  | n + 1, m + 1, l, h1, h2 => by
    by_cases h : l = []
    · subst h; rfl
    · have hw := dcd_wd h
      rw [xpF, xpF, if_neg h, if_neg h, xpF_more n m _ (by simp only [List.length_drop]; omega) (by simp only [List.length_drop]; omega)]
theorem xp_cons {l : List Nat} (h : l ≠ []) : xp l = (dcd l).1 :: xp (l.drop (dcd l).2.1) := by
  have hw := dcd_wd h
  have h1 : xp l = xpF (l.length + 1) l := xpF_more _ _ _ (by omega) (by omega)
  rw [h1, xpF, if_neg h]
  congr 1
  exact xpF_more _ _ _ (by simp only [List.length_drop]; omega) (by omega)
/-- the bytes of code points -/
def encL (ps : List Nat) : List Nat := ps.flatMap enc
theorem encL_cons (p : Nat) (ps : List Nat) : encL (p :: ps) = enc p ++ encL ps := rfl
theorem encL_append (a b : List Nat) : encL (a ++ b) = encL a ++ encL b := by unfold encL; simp
theorem encL_one (p : Nat) : encL [p] = enc p := by simp [encL]
theorem encL_lo {ps : List Nat} (h : ∀ p ∈ ps, Pt p) : ∀ x ∈ encL ps, x < 256 := by
  intro x hx
  unfold encL at hx
  obtain ⟨p, hp, hx⟩ := List.mem_flatMap.1 hx
  exact enc_lo (h p hp).1 x hx
theorem encL_len : ∀ ps : List Nat, (encL ps).length ≤ 4 * ps.length
  | [] => Nat.le_refl _
  | p :: ps => by
    have := encL_len ps
    have h1 := enc_len p
    have h2 := en_pos p
    rw [encL_cons]; simp only [List.length_append, List.length_cons]; omega
/-- how far a text is sound -/
def vdF : Nat → List Nat → Nat
  | 0, _ => 0
  | n + 1, l => if (dcd l).2.2 = true then (dcd l).2.1 + vdF n (l.drop (dcd l).2.1) else 0
def vd (l : List Nat) : Nat := vdF l.length l
theorem dcd_ne {l : List Nat} (h : (dcd l).2.2 = true) : l ≠ [] := by rintro rfl; cases h
theorem vdF_more : ∀ (n m : Nat) (l : List Nat), l.length ≤ n → l.length ≤ m → vdF n l = vdF m l
  | 0, m, l, h, _ => by
    obtain rfl : l = [] := List.length_eq_zero_iff.1 (by omega)
    cases m <;> rfl
  | n + 1, 0, l, _, h => by
    obtain rfl : l = [] := List.length_eq_zero_iff.1 (by omega)
    rfl
  | n + 1, m + 1, l, h1, h2 => by
    by_cases h : (dcd l).2.2 = true
    · have hw := dcd_wd (dcd_ne h)
      rw [vdF, vdF, if_pos h, if_pos h, vdF_more n m _ (by simp only [List.length_drop]; omega) (by simp only [List.length_drop]; omega)]
    · rw [vdF, vdF, if_neg h, if_neg h]
theorem vd_go {l : List Nat} (h : (dcd l).2.2 = true) : vd l = (dcd l).2.1 + vd (l.drop (dcd l).2.1) := by
  have hw := dcd_wd (dcd_ne h)
  have h1 : vd l = vdF (l.length + 1) l := vdF_more _ _ _ (by omega) (by omega)
  rw [h1, vdF, if_pos h]
  congr 1
  exact vdF_more _ _ _ (by simp only [List.length_drop]; omega) (by omega)
theorem vd_stop {l : List Nat} (h : (dcd l).2.2 = false) : vd l = 0 := by
  have h1 : vd l = vdF (l.length + 1) l := vdF_more _ _ _ (by omega) (by omega)
  rw [h1, vdF, if_neg (by rw [h]; exact Bool.false_ne_true)]
end Go.Proofs.YtpgiljibicigeaaGreatDoor.UM
