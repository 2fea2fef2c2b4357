/- quote's iterator r.points. -/
import Derived.Test.YtpgiljibicigeaaGreatDoorQuoD
import Derived.Test.YtpgiljibicigeaaGreatDoorUtfEs
import Derived.Lib.IndexBytes
import Derived.Deep.RegionHeld3
import Derived.Deep.RegionWith
set_option linter.unusedVariables false
set_option linter.unusedSimpArgs false
namespace Go.Proofs.YtpgiljibicigeaaGreatDoor
open Go.RowKit UM QM

attribute [local go_sem] Oper.semAt_some

theorem RB.below {w w' : World} {g : Nat} {a : Option Addr} {cap : Nat} {l : List Nat} {k err : Nat} (h : RB w g a cap l k err) (hb : Below w.heap.size w w') : RB w' g a cap l k err := by
  obtain ⟨h0, h1, h2, hf, hr, ha, hk, hl, hlo, hcp, hsh, hsn⟩ := h
  exact ⟨keepC h0 hb, keepC h1 hb, keepC h2 hb, fun j => (hb.frozen (p := ⟨g, j, none⟩) (show g < w.heap.size from lt_of_cell h0)).trans (hf j), hr.below hb, ha, hk, hl, hlo, hcp, hsh.below hb, hsn⟩
/-- what has been told, and where the reader stands -/
inductive Rch (l : List Nat) : List Int → Nat → Prop
  | start (h : pk l 0 = 34) : Rch l [] 1
  | step {pre : List Int} {k : Nat} (h : Rch l pre k) (h1 : pk l k ≠ 34) (h2 : (pieceF l k).2.1 = true) : Rch l (pre ++ [(pieceF l k).1]) (pieceF l k).2.2
/-- how it ends -/
def Fin (l : List Nat) (xs : List Int) (k err : Nat) : Prop :=
  (pk l 0 ≠ 34 ∧ xs = [] ∧ k = 0 ∧ err = faultF l 0) ∨ (∃ j, Rch l xs j ∧ pk l j = 34 ∧ k = j + 1 ∧ err = 0) ∨ (∃ j, Rch l xs j ∧ pk l j ≠ 34 ∧ (pieceF l j).2.1 = false ∧ k = (pieceF l j).2.2 ∧ err = faultF l k)
theorem unitF_ge {l : List Nat} : ∀ {n k h : Nat}, k ≤ (unitF l n k h).2.2 := by
  intro n
  induction n with
  | zero => intro k h; exact Nat.le_refl _
  | succ n ih =>
    intro k h
    simp only [unitF]
    split
    · exact Nat.le_refl _
    · exact Nat.le_trans (Nat.le_succ k) ih
theorem un_ge (l : List Nat) (k : Nat) : k ≤ (un l k).2.2 := unitF_ge
theorem low_ge (l : List Nat) (k : Nat) : k ≤ (lowF l k).2.2 := by
  unfold lowF
  have := un_ge l (k + 2)
  split
  · exact Nat.le_refl _
  · split
    · exact Nat.le_succ k
    · simp only; omega
theorem coded_ge (l : List Nat) (k : Nat) : k ≤ (codedF l k).2.2 := by
  unfold codedF
  have h1 := un_ge l k
  have h2 := low_ge l (un l k).2.2
  repeat' split
  all_goals simp only; omega
theorem esc_ge (l : List Nat) (k : Nat) : k ≤ (escF l k).2.2 := by
  unfold escF
  have h1 := coded_ge l (k + 1)
  repeat' split
  all_goals (try simp only)
  all_goals omega
theorem piece_adv {l : List Nat} {k : Nat} (h : (pieceF l k).2.1 = true) (_hk : k < l.length) : k < (pieceF l k).2.2 := by
  unfold pieceF at h ⊢
  by_cases c1 : pk l k < 32
  · rw [if_pos c1] at h; cases h
  · rw [if_neg c1] at h ⊢
    by_cases c2 : 127 < pk l k
    · rw [if_pos c2] at h ⊢
      unfold pointF at h ⊢
      by_cases c3 : (dcd ((l.drop k).take 4)).2.2 = true
      · rw [if_pos c3]
        have := (dcd_wd (dcd_ne c3)).1
        simp only; omega
      · rw [if_neg c3] at h
        split at h <;> cases h
    · rw [if_neg c2] at h ⊢
      by_cases c3 : pk l k = 92
      · rw [if_pos c3]
        have := esc_ge l (k + 1)
        omega
      · rw [if_neg c3]; simp only; omega
theorem coded_pt {l : List Nat} {k : Nat} (h : (codedF l k).2.1 = true) : ∃ p, Pt p ∧ (codedF l k).1 = ((p : Nat) : Int) := by
  unfold codedF at h ⊢
  have hu := un_lt l k
  generalize un l k = U at *
  obtain ⟨u1, u2, u3⟩ := U
  simp only at h hu ⊢
  cases u2
  · rw [if_pos rfl] at h; cases h
  rw [if_neg (by decide)] at h ⊢
  by_cases c1 : u1 < 55296 ∨ 57343 < u1
  · rw [if_pos c1]
    exact ⟨u1.toNat, ⟨by omega, by omega⟩, by simp only; omega⟩
  rw [if_neg c1]
  by_cases c2 : 56320 ≤ u1
  · rw [if_pos c2]; exact ⟨65533, by decide, rfl⟩
  rw [if_neg c2]
  by_cases c3 : (lowF l u3).2.1 = true
  · rw [if_pos c3]
    have hl : 56320 ≤ (lowF l u3).1 ∧ (lowF l u3).1 ≤ 57343 := by
      unfold lowF at c3 ⊢
      by_cases d1 : pk l u3 ≠ 92
      · rw [if_pos d1] at c3; cases c3
      rw [if_neg d1] at c3 ⊢
      by_cases d2 : pk l (u3 + 1) ≠ 117
      · rw [if_pos d2] at c3; cases c3
      rw [if_neg d2] at c3 ⊢
      simp only [Bool.and_eq_true, decide_eq_true_eq] at c3
      exact ⟨c3.1.2, c3.2⟩
    exact ⟨(65536 + 1024 * (u1 - 55296) + (lowF l u3).1 - 56320).toNat, ⟨by omega, by omega⟩, by simp only; omega⟩
  · rw [if_neg c3]; exact ⟨65533, by decide, rfl⟩
theorem pk_pt {l : List Nat} {k : Nat} (h : 0 ≤ pk l k) (h2 : pk l k ≤ 127) : ∃ p, Pt p ∧ pk l k = ((p : Nat) : Int) := ⟨(pk l k).toNat, ⟨by omega, by omega⟩, by omega⟩
theorem esc_pt {l : List Nat} {k : Nat} (h : (escF l k).2.1 = true) : ∃ p, Pt p ∧ (escF l k).1 = ((p : Nat) : Int) := by
  unfold escF at h ⊢
  by_cases c1 : pk l k = 34 ∨ pk l k = 92 ∨ pk l k = 47
  · rw [if_pos c1]; exact pk_pt (by omega) (by omega)
  rw [if_neg c1] at h ⊢
  by_cases c2 : pk l k = 98
  · rw [if_pos c2]; exact ⟨8, by decide, rfl⟩
  rw [if_neg c2] at h ⊢
  by_cases c3 : pk l k = 102
  · rw [if_pos c3]; exact ⟨12, by decide, rfl⟩
  rw [if_neg c3] at h ⊢
  by_cases c4 : pk l k = 110
  · rw [if_pos c4]; exact ⟨10, by decide, rfl⟩
  rw [if_neg c4] at h ⊢
  by_cases c5 : pk l k = 114
  · rw [if_pos c5]; exact ⟨13, by decide, rfl⟩
  rw [if_neg c5] at h ⊢
  by_cases c6 : pk l k = 116
  · rw [if_pos c6]; exact ⟨9, by decide, rfl⟩
  rw [if_neg c6] at h ⊢
  by_cases c7 : pk l k = 117
  · rw [if_pos c7] at h ⊢; exact coded_pt h
  rw [if_neg c7] at h; cases h
theorem piece_pt {l : List Nat} {k : Nat} (_ : LM.Lo 256 l) (h : (pieceF l k).2.1 = true) : ∃ p, Pt p ∧ (pieceF l k).1 = ((p : Nat) : Int) := by
  unfold pieceF at h ⊢
  by_cases c1 : pk l k < 32
  · rw [if_pos c1] at h; cases h
  rw [if_neg c1] at h ⊢
  by_cases c2 : 127 < pk l k
  · rw [if_pos c2] at h ⊢
    unfold pointF at h ⊢
    by_cases c3 : (dcd ((l.drop k).take 4)).2.2 = true
    · rw [if_pos c3]
      rcases dcd_cases ((l.drop k).take 4) with ⟨p, t, hp, _, e⟩ | ⟨_, e⟩ | ⟨_, e⟩
      · rw [e]; exact ⟨p, hp, rfl⟩
      · rw [e] at c3; cases c3
      · rw [e] at c3; cases c3
    · rw [if_neg c3] at h
      split at h <;> cases h
  rw [if_neg c2] at h ⊢
  by_cases c3 : pk l k = 92
  · rw [if_pos c3] at h ⊢; exact esc_pt h
  · rw [if_neg c3]; exact pk_pt (by omega) (by omega)
theorem pk_ne {l : List Nat} {k : Nat} (h : (pieceF l k).2.1 = true) : k < l.length := by
  refine pk_pos fun e => ?_
  unfold pieceF at h
  rw [if_pos (by rw [e]; decide)] at h
  cases h
theorem rch_len {l : List Nat} {pre : List Int} {k : Nat} (h : Rch l pre k) : pre.length ≤ k := by
  induction h with
  | start h => exact Nat.zero_le _
  | step h h1 h2 ih => have := piece_adv h2 (pk_ne h2); rw [List.length_append, List.length_singleton]; omega
/-- a piece has at least as many bytes as its code point -/
theorem unitF_all {l : List Nat} : ∀ {n k h : Nat}, (unitF l n k h).2.1 = true → (unitF l n k h).2.2 = k + n := by
  intro n
  induction n with
  | zero => intro k h _; rfl
  | succ n ih =>
    intro k h ht
    simp only [unitF] at ht ⊢
    split at ht
    · cases ht
    · rename_i d hd
      have e := ih ht
      rw [e]; omega
theorem un_four {l : List Nat} {k : Nat} (h : (un l k).2.1 = true) : (un l k).2.2 = k + 4 := unitF_all h
theorem low_six {l : List Nat} {k : Nat} (h : (lowF l k).2.1 = true) : (lowF l k).2.2 = k + 6 := by
  unfold lowF at h ⊢
  by_cases d1 : pk l k ≠ 92
  · rw [if_pos d1] at h; cases h
  rw [if_neg d1] at h ⊢
  by_cases d2 : pk l (k + 1) ≠ 117
  · rw [if_pos d2] at h; cases h
  rw [if_neg d2] at h ⊢
  simp only [Bool.and_eq_true, decide_eq_true_eq] at h
  have := un_four h.1.1
  simp only; omega
theorem en_le3 {p : Nat} (h : p < 65536) : en p ≤ 3 := by
  unfold en
  repeat' split
  all_goals omega
theorem en_le1 {p : Nat} (h : p < 128) : en p ≤ 1 := by unfold en; rw [if_pos h]; exact Nat.le_refl _
theorem coded_wide {l : List Nat} {k p : Nat} (h : (codedF l k).2.1 = true) (hp : (codedF l k).1 = ((p : Nat) : Int)) : k + en p ≤ (codedF l k).2.2 := by
  unfold codedF at h hp ⊢
  have hu := un_lt l k
  have hE := un_four (l := l) (k := k)
  generalize un l k = U at *
  obtain ⟨u1, u2, u3⟩ := U
  simp only at h hu hE hp ⊢
  cases u2
  · rw [if_pos rfl] at h; cases h
  rw [if_neg (by decide)] at h hp ⊢
  have hE' := hE rfl
  by_cases c1 : u1 < 55296 ∨ 57343 < u1
  · rw [if_pos c1] at hp ⊢
    simp only at hp ⊢
    have := en_le3 (p := p) (by omega)
    omega
  rw [if_neg c1] at hp ⊢
  by_cases c2 : 56320 ≤ u1
  · rw [if_pos c2] at hp ⊢
    simp only at hp ⊢
    have := en_le3 (p := p) (by omega)
    omega
  rw [if_neg c2] at hp ⊢
  by_cases c3 : (lowF l u3).2.1 = true
  · rw [if_pos c3] at hp ⊢
    have h6 := low_six c3
    have := (en_pos p).2
    simp only
    omega
  · rw [if_neg c3] at hp ⊢
    simp only at hp ⊢
    have := en_le3 (p := p) (by omega)
    omega
theorem esc_wide {l : List Nat} {k p : Nat} (h : (escF l k).2.1 = true) (hp : (escF l k).1 = ((p : Nat) : Int)) : k + en p ≤ (escF l k).2.2 := by
  unfold escF at h hp ⊢
  by_cases c1 : pk l k = 34 ∨ pk l k = 92 ∨ pk l k = 47
  · rw [if_pos c1] at hp ⊢
    simp only at hp ⊢
    have := en_le1 (p := p) (by omega)
    omega
  rw [if_neg c1] at h hp ⊢
  by_cases c2 : pk l k = 98
  · rw [if_pos c2] at hp ⊢; simp only at hp ⊢; have := en_le1 (p := p) (by omega); omega
  rw [if_neg c2] at h hp ⊢
  by_cases c3 : pk l k = 102
  · rw [if_pos c3] at hp ⊢; simp only at hp ⊢; have := en_le1 (p := p) (by omega); omega
  rw [if_neg c3] at h hp ⊢
  by_cases c4 : pk l k = 110
  · rw [if_pos c4] at hp ⊢; simp only at hp ⊢; have := en_le1 (p := p) (by omega); omega
  rw [if_neg c4] at h hp ⊢
  by_cases c5 : pk l k = 114
  · rw [if_pos c5] at hp ⊢; simp only at hp ⊢; have := en_le1 (p := p) (by omega); omega
  rw [if_neg c5] at h hp ⊢
  by_cases c6 : pk l k = 116
  · rw [if_pos c6] at hp ⊢; simp only at hp ⊢; have := en_le1 (p := p) (by omega); omega
  rw [if_neg c6] at h hp ⊢
  by_cases c7 : pk l k = 117
  · rw [if_pos c7] at h hp ⊢
    have := coded_wide h hp
    omega
  rw [if_neg c7] at h; cases h
theorem piece_wide {l : List Nat} {k p : Nat} (h : (pieceF l k).2.1 = true) (hp : (pieceF l k).1 = ((p : Nat) : Int)) : k + en p ≤ (pieceF l k).2.2 := by
  unfold pieceF at h hp ⊢
  by_cases c1 : pk l k < 32
  · rw [if_pos c1] at h; cases h
  rw [if_neg c1] at h hp ⊢
  by_cases c2 : 127 < pk l k
  · rw [if_pos c2] at h hp ⊢
    unfold pointF at h hp ⊢
    by_cases c3 : (dcd ((l.drop k).take 4)).2.2 = true
    · rw [if_pos c3] at hp ⊢
      rcases dcd_cases ((l.drop k).take 4) with ⟨q, t, hq, _, e⟩ | ⟨_, e⟩ | ⟨_, e⟩
      · rw [e] at hp ⊢
        have hqp : q = p := Int.ofNat.inj hp
        subst hqp
        exact Nat.le_refl _
      · rw [e] at c3; cases c3
      · rw [e] at c3; cases c3
    · rw [if_neg c3] at h
      split at h <;> cases h
  rw [if_neg c2] at h hp ⊢
  by_cases c3 : pk l k = 92
  · rw [if_pos c3] at h hp ⊢
    have := esc_wide h hp
    omega
  · rw [if_neg c3] at hp ⊢
    simp only at hp ⊢
    have := en_le1 (p := p) (by omega)
    omega
theorem rch_wide {l : List Nat} {pre : List Int} {k : Nat} (h : Rch l pre k) : ∀ ps : List Nat, pre = ps.map (fun p => ((p : Nat) : Int)) → (encL ps).length ≤ k := by
  induction h with
  | start h =>
    intro ps e
    have : ps = [] := by cases ps with | nil => rfl | cons => cases e
    subst this
    exact Nat.zero_le _
  | step h h1 h2 ih =>
    intro ps e
    rcases List.eq_nil_or_concat ps with rfl | ⟨qs, q, rfl⟩
    · simp at e
    · rw [List.concat_eq_append] at e ⊢
      rw [List.map_append, List.map_cons, List.map_nil] at e
      obtain ⟨e1, e2⟩ := List.append_inj' e rfl
      have hq := piece_wide h2 (by simpa using e2)
      have hi := ih qs e1
      rw [encL_append, encL_one, List.length_append, enc_len]
      omega
def Kpr (g : Nat) (a : Option Addr) (cap : Nat) (l : List Nat) (A B : World) : Prop := ∀ k err, RB A g a cap l k err → RB B g a cap l k err
def EndS (g : Nat) (a : Option Addr) (cap : Nat) (l : List Nat) (xs : List Int) (W : World) : Prop := ∃ k err, Fin l xs k err ∧ RB W g a cap l k err
def EndP (g : Nat) (a : Option Addr) (cap : Nat) (l : List Nat) (xs : List Int) (W : World) : Prop := ∃ k, Rch l xs k ∧ RB W g a cap l k 0
theorem RB.err {w : World} {g : Nat} {a : Option Addr} {cap : Nat} {l : List Nat} {k err : Nat} (h : RB w g a cap l k err) (e' : Nat) : RB (w.setCell ⟨g, 2, none⟩ (.int .i64 (e' : Int))) g a cap l k e' := by
  obtain ⟨h0, h1, h2, hf, hr, ha, hk2, hl, hlo, hcp, hsh, hsn⟩ := h
  exact ⟨by simp [go_sem, h0], by simp [go_sem, h1], by simp [go_sem, h2], fun j => by simp [go_sem, hf j], Rd.gbc hr (gb_set (gb_refl w (some g)) 2 _) ha, ha, hk2, hl, hlo, hcp, hsh.gb (gb_set (gb_refl w (some g)) 2 _) hsn, hsn⟩
/-- what is left, off the box -/
def mz (g : Nat) (l : List Nat) (w : World) : Nat := match w.cell? ⟨g, 1, none⟩ with | some (.int _ n) => l.length + 1 - n.toNat | _ => 0
theorem mz_is {w : World} {g : Nat} {a : Option Addr} {cap : Nat} {l : List Nat} {k err : Nat} (h : RB w g a cap l k err) : mz g l w = l.length + 1 - k := by
  unfold mz; rw [h.2.1]; simp
set_option maxRecDepth 100000 in
set_option maxHeartbeats 4000000 in
theorem points_gives (g : Nat) (a : Option Addr) (cap : Nat) (l : List Nat) (w : World) :
    ItGives Fence.wide 2 Tryz.prog 81 #[.pointer (some ⟨g, 0, none⟩)] #[] (fun x => #[.int .i64 x]) (fun pre x => (∃ p, Pt p ∧ x = ((p : Nat) : Int)) ∧ pre.length ≤ l.length ∧ ∀ ps : List Nat, pre ++ [x] = ps.map (fun p => ((p : Nat) : Int)) → (encL ps).length ≤ l.length) (fun A B => A.grownBy B (some g)) (fun _ W => RB W g a cap l 0 0) (Kpr g a cap l) w (EndS g a cap l) (EndP g a cap l) := by
  intro lp J Jx W hB sJ sX hY h0
  have SJ := Lib.hid sJ; have SX := Lib.hid sX; have HY := Lib.hid hY; have HB := Lib.hid hB; have HJ := Lib.hid h0
  clear sJ sX hY hB h0
  by_cases c0 : pk l 0 = 34
  · have HT := Lib.hid (callsIn_wide (n := 1) |>.2 (take_yes 34 g a cap l 0 W HB.out c0 (by decide)))
    have HC := Lib.hid c0
    clear c0
    refine callsIn_of_wp Tryz.func81 rfl trivial ?_ rfl
    simp only [Tryz.ntmps81, List.size_toArray, List.length_cons, List.length_nil, Nat.reduceAdd, Nat.reduceSub, Array.replicate_succ, Array.replicate_zero, List.push_toArray, List.append_toArray, List.nil_append, List.cons_append]
    gi_wp2
    refine ⟨trivial, HT.out.mono ?_⟩
    rintro e w1 ⟨rfl, hb1, hg1⟩
    have HB1 := Lib.hid hb1
    have HJ1 := Lib.hid (SJ.out _ _ _ HJ.out hg1)
    clear hb1 hg1 HT
    gi_wp2
    gi_loopw [4, 5] (fun _ _ wr => ∃ (pre : List Int) (k : Nat), Hid (Rch l pre k) ∧ Hid (J pre wr) ∧ Hid (RB wr g a cap l k 0)) (fun _ _ wr => mz g l wr)
    case atStart => exact ⟨[], 1, Lib.hid (Rch.start HC.out), HJ1, HB1⟩
    case round =>
      obtain ⟨pre, k, HR, HJr, HBr⟩ := hrel
      by_cases c1 : pk l k = 34
      · have HT := Lib.hid (callsIn_wide (n := 1) |>.2 (take_yes 34 g a cap l k wr HBr.out c1 (by decide)))
        have HC1 := Lib.hid c1
        clear c1
        gi_wp2
        refine ⟨trivial, HT.out.mono ?_⟩
        rintro e w2 ⟨rfl, hb2, hg2⟩
        have HB2 := Lib.hid hb2
        have HJ2 := Lib.hid (SJ.out _ _ _ HJr.out hg2)
        clear hb2 hg2 HT
        gi_wp2
        go_end0
        exact ⟨⟨_, rfl⟩, .inl ⟨pre, ⟨_, _, .inr (.inl ⟨k, HR.out, HC1.out, rfl, rfl⟩), HB2.out⟩, HJ2.out⟩⟩
      · have HT := Lib.hid (callsIn_wide (n := 1) |>.2 (take_no 34 g a cap l k wr HBr.out c1))
        have HC1 := Lib.hid c1
        clear c1
        have HP := Lib.hid (fun W r => callsIn_wide (n := 1) |>.2 (piece_any g a cap l k W r))
        have HF := Lib.hid (fun k' W r => callsIn_wide (n := 1) |>.2 (fault_any g a cap l k' 0 W r))
        obtain ⟨Q, hQ⟩ : ∃ Q, Q = pieceF l k := ⟨_, rfl⟩
        have HQ := Lib.hid hQ
        unfold ResP at HP
        rw [← hQ] at HP
        clear hQ
        obtain ⟨x, ok, k'⟩ := Q
        cases ok
        · gi_wp2
          refine ⟨trivial, HT.out.mono ?_⟩
          rintro e w2 ⟨rfl, hb2, hg2⟩
          have HB2 := Lib.hid hb2
          have HJ2 := Lib.hid (SJ.out _ _ _ HJr.out hg2)
          clear hb2 hg2 HT
          gi_wp2
          refine ⟨trivial, (HP.out _ HB2.out).mono ?_⟩
          rintro e w3 ⟨rfl, hb3, hg3⟩
          have HB3 := Lib.hid hb3
          have HJ3 := Lib.hid (SJ.out _ _ _ HJ2.out hg3)
          clear hb3 hg3
          gi_wp2
          refine ⟨trivial, (HF.out _ _ HB3.out).mono ?_⟩
          rintro e w4 ⟨rfl, n4, rfl⟩
          obtain ⟨q0, q1, q2, qf, _⟩ := HB3.out
          gi_wp2
          refine bodyPost_ret (results_none rfl _ _ _) rfl ?_
          have hQ := HQ.out
          exact ⟨⟨_, rfl⟩, .inl ⟨pre, ⟨k', faultF l k', .inr (.inr ⟨k, HR.out, HC1.out, by rw [← hQ], by rw [← hQ], rfl⟩), (HB3.out.dN _).err _⟩, SJ.out _ _ _ HJ3.out (gb_set (gb_dN (gb_refl _ _) _) _ _)⟩⟩
        · gi_wp2
          refine ⟨trivial, HT.out.mono ?_⟩
          rintro e w2 ⟨rfl, hb2, hg2⟩
          have HB2 := Lib.hid hb2
          have HJ2 := Lib.hid (SJ.out _ _ _ HJr.out hg2)
          clear hb2 hg2 HT
          gi_wp2
          refine ⟨trivial, (HP.out _ HB2.out).mono ?_⟩
          rintro e w3 ⟨rfl, hb3, hg3⟩
          have HB3 := Lib.hid hb3
          have HJ3 := Lib.hid (SJ.out _ _ _ HJ2.out hg3)
          clear hb3 hg3
          have hok0 : (pieceF l k).2.1 = true := by rw [← HQ.out]
          have hpt := piece_pt HBr.out.facts.2.2 hok0
          rw [← HQ.out] at hpt
          have hwd : ∀ ps : List Nat, pre ++ [x] = ps.map (fun p => ((p : Nat) : Int)) → (encL ps).length ≤ l.length := by
            have hst := Rch.step HR.out HC1.out hok0
            rw [← HQ.out] at hst
            exact fun ps e => Nat.le_trans (rch_wide hst ps e) HB3.out.facts.1
          obtain ⟨fn, tmps, assign, body, hy, hR⟩ := HY.out pre x w3 ⟨hpt, Nat.le_trans (rch_len HR.out) HBr.out.facts.1, hwd⟩ HJ3.out
          clear hok0 hpt hwd
          gi_wp2
          refine hR.mono ?_
          rintro e w4 (⟨rfl, hJ4, hk4⟩ | ⟨rfl, hJx4, hk4⟩)
          · have HB4 := Lib.hid (hk4 _ _ HB3.out)
            have hQ := HQ.out
            have hok : (pieceF l k).2.1 = true := by rw [← hQ]
            have hst := Rch.step HR.out HC1.out hok
            have hadv := piece_adv hok (pk_ne hok)
            have hkl := HBr.out.facts.1
            rw [← hQ] at hst hadv
            simp only at hst hadv
            have HST := Lib.hid hst
            have HAD := Lib.hid hadv
            have HJ4 := Lib.hid hJ4
            clear hst hadv hQ hok hJ4 hk4
            have hm1 := Lib.hid (mz_is HB4.out)
            have hm0 := Lib.hid (mz_is HBr.out)
            gi_wp2
            go_roundw
            case rel => exact ⟨_, _, HST, HJ4, HB4⟩
            case measure => rw [hm1.out, hm0.out]; have := HAD.out; omega
          · have HB4 := Lib.hid (hk4 _ _ HB3.out)
            have hQ := HQ.out
            have hok : (pieceF l k).2.1 = true := by rw [← hQ]
            have hst := Rch.step HR.out HC1.out hok
            rw [← hQ] at hst
            simp only at hst
            have HST := Lib.hid hst
            have HJ4 := Lib.hid hJx4
            clear hst hQ hok hJx4 hk4
            gi_wp2
            refine bodyPost_ret (results_none rfl _ _ _) rfl ?_
            exact ⟨⟨_, rfl⟩, .inr ⟨_, ⟨_, HST.out, HB4.out⟩, HJ4.out⟩⟩
  · have HT := Lib.hid (callsIn_wide (n := 1) |>.2 (take_no 34 g a cap l 0 W HB.out c0))
    have HC := Lib.hid c0
    clear c0
    have HF := Lib.hid (fun k' W r => callsIn_wide (n := 1) |>.2 (fault_any g a cap l k' 0 W r))
    refine callsIn_of_wp Tryz.func81 rfl trivial ?_ rfl
    simp only [Tryz.ntmps81, List.size_toArray, List.length_cons, List.length_nil, Nat.reduceAdd, Nat.reduceSub, Array.replicate_succ, Array.replicate_zero, List.push_toArray, List.append_toArray, List.nil_append, List.cons_append]
    gi_wp2
    refine ⟨trivial, HT.out.mono ?_⟩
    rintro e w1 ⟨rfl, hb1, hg1⟩
    have HB1 := Lib.hid hb1
    have HJ1 := Lib.hid (SJ.out _ _ _ HJ.out hg1)
    clear hb1 hg1 HT
    gi_wp2
    refine ⟨trivial, (HF.out _ _ HB1.out).mono ?_⟩
    rintro e w4 ⟨rfl, n4, rfl⟩
    obtain ⟨q0, q1, q2, qf, _⟩ := HB1.out
    gi_wp2
    refine bodyPost_ret (results_none rfl _ _ _) rfl ?_
    exact ⟨⟨_, rfl⟩, .inl ⟨[], ⟨0, faultF l 0, .inl ⟨HC.out, rfl, rfl, rfl⟩, (HB1.out.dN _).err _⟩, SJ.out _ _ _ HJ1.out (gb_set (gb_dN (gb_refl _ _) _) _ _)⟩⟩
end Go.Proofs.YtpgiljibicigeaaGreatDoor

/- quote: putPiece walked. -/
namespace Go.Proofs.YtpgiljibicigeaaGreatDoor
open Go.RowKit UM QM

end Go.Proofs.YtpgiljibicigeaaGreatDoor

/- Valid and Cmp of the program. -/
namespace Go.Proofs.YtpgiljibicigeaaGreatDoor
open Go.RowKit UM

theorem bl_extract (s : ByteArray) (k : Nat) : bl (s.extract k s.size) = (bl s).drop k := by
  unfold bl
  rw [Lib.extract_to_end, List.map_drop]
theorem extract_size (s : ByteArray) (k : Nat) : (s.extract k s.size).size = s.size - k := by
  have := bl_len (s.extract k s.size)
  rw [bl_extract, List.length_drop, bl_len] at this
  exact this.symm
theorem UI.dN {s : ByteArray} {B : Nat} {w0 : World} {K : Nat} {e : TypeId} {k : IntKind} {wr : World} {pos : Nat} {ao : Option Addr} {cap : Nat} {L : List Nat} (h : UI s B w0 K e k wr pos ao cap L) (n : Nat) : UI s B w0 K e k (wr.drewN n) pos ao cap L :=
  ⟨h.it, h.own.dN n, bdN h.bw n, h.kb, h.hB⟩
theorem ok_of_ne {l : List Nat} {c wd : Nat} {b : Bool} (h : dcd l = (c, wd, b)) (hc : c ≠ 65533) : b = true := by
  rcases dcd_cases l with ⟨p, t, _, _, e⟩ | ⟨_, e⟩ | ⟨_, e⟩ <;> rw [h] at e <;> simp only [Prod.mk.injEq] at e
  · exact e.2.2
  · exact absurd e.1 hc
  · exact absurd e.1 hc
def ResV (m : Nat) (w : World) (r : Ending) (w' : World) : Prop := r = .returned (.int .i64 m) ∧ Below w.heap.size w w'
set_option maxHeartbeats 4000000 in
theorem Valid_any (s : ByteArray) (w : World) (hs : s.size ≤ 140737488351232) (ht : Sh w) : Calls Tryz.prog 19 #[.string s] w (ResV (vd (bl s)) w) := by
  have HT := Lib.hid ht
  clear ht
  go_enter Tryz.func19, Tryz.ntmps19
  go_wp2
  go_loopw [] (fun wr => ∃ (pos : Nat), pos ≤ s.size ∧ UI s w.heap.size w w.heap.size 3 .i64 wr pos none 0 [] ∧ Hid (vd (bl s) = pos + vd ((bl s).drop pos))) (fun wr => s.size - wr.iterPos w.heap.size)
  case atStart =>
    exact ⟨0, Nat.zero_le _, ⟨World.iter_heap w s 0, Own.nilNone _ _ _ _, (Below.refl _ _).alloc (Nat.le_refl _) _, Nat.le_refl _, Nat.le_refl _⟩, Lib.hid (by simp)⟩
  case round =>
    obtain ⟨pos, hps, I, HX⟩ := hrel
    by_cases hp : pos < s.size
    · obtain ⟨c, wd, hd, hdd, hc, hw1, hw2, _, _⟩ := next_pt s pos hp
      have hnx : ∀ ty, (Instr.next (.pointer (some ⟨w.heap.size, 0, none⟩)) true ty).run Tryz.prog wr = _ := fun ty => Lib.run_next_any_at wr w.heap.size s pos ty I.it hp
      rw [hd.out] at hnx
      simp only at hnx
      have I2 := I.iter (pos + wd)
      have HIT := Lib.hid I.it
      have hgo : (dcd ((bl s).drop pos)).2.2 = true → vd (bl s) = (pos + wd) + vd ((bl s).drop (pos + wd)) := by
        intro h
        rw [HX.out, vd_go h, hdd.out]
        simp only
        rw [List.drop_drop]; omega
      have HGO := Lib.hid hgo
      clear hgo I
      by_cases hr : c = 65533
      · subst hr
        have hD := Decode_any (s.extract pos s.size) (wr.iterAt w.heap.size s (pos + wd)) (by rw [extract_size]; omega) (HT.out.below I2.bw)
        unfold ResDec at hD
        rw [bl_extract, hdd.out] at hD
        simp only at hD
        have HD := Lib.hid hD
        clear hD
        rcases hsd : (dcd ((bl s).drop pos)).2.2 with _ | _
        · rw [hsd] at HD
          have HE : Hid (vd (bl s) = pos) := Lib.hid (by rw [HX.out, vd_stop hsd]; rfl)
          clear hsd HGO
          go_wp2_with fail
          refine HD.out.mono ?_
          rintro r w2 ⟨rfl, n2, rfl⟩
          have HB := Lib.hid (bdN I2.bw n2)
          clear I2
          go_wp2
          go_ret
          exact ⟨ret_int (by rw [HE.out]), HB.out⟩
        · rw [hsd] at HD
          have HE := Lib.hid (HGO.out hsd)
          clear hsd HGO
          go_wp2_with fail
          refine HD.out.mono ?_
          rintro r w2 ⟨rfl, n2, rfl⟩
          have I3 := I2.dN n2
          clear I2
          go_wp2
          go_roundw
          case rel => exact ⟨pos + wd, hw2, I3, HE⟩
          case measure => exact it_less HIT.out I3.it hp (by omega)
      · have hsd : (dcd ((bl s).drop pos)).2.2 = true := ok_of_ne hdd.out hr
        have HE := Lib.hid (HGO.out hsd)
        have h1 : ((c : Int) != 65533) = true := by simp; omega
        have h2 : ¬ (c : Int) = 65533 := by omega
        clear hsd HGO
        go_wp2
        go_roundw
        case rel => exact ⟨pos + wd, hw2, I2, HE⟩
        case measure => exact it_less HIT.out I2.it hp (by omega)
    · have hnx : ∀ ty, (Instr.next (.pointer (some ⟨w.heap.size, 0, none⟩)) true ty).run Tryz.prog wr = _ := fun ty => Lib.run_next_end_at wr w.heap.size s pos ty I.it hp
      have HE : Hid (vd (bl s) = s.size) := Lib.hid (by rw [HX.out, List.drop_of_length_le (by rw [bl_len]; omega)]; show pos + 0 = _; omega)
      have HB := Lib.hid I.bw
      clear I
      go_wp2
      go_ret
      exact ⟨ret_int (by rw [HE.out]), HB.out⟩

end Go.Proofs.YtpgiljibicigeaaGreatDoor

/- The document's size, Is, Bytes, Encode. -/
namespace Go.Proofs.YtpgiljibicigeaaGreatDoor
open Go.RowKit UM

end Go.Proofs.YtpgiljibicigeaaGreatDoor

/- The document's Decode. -/
namespace Go.Proofs.YtpgiljibicigeaaGreatDoor
open Go.RowKit UM

theorem txt_eq {l : List Nat} {t : ByteArray} (hl : ∀ x ∈ l, x < 256) : ((tx l).toList == t.toList) = decide (l = bl t) := by
  rw [ByteArray.toList_eq, ByteArray.toList_eq, Bool.eq_iff_iff, beq_iff_eq, decide_eq_true_iff]
  constructor
  · intro h
    rw [← bl_tx hl]
    unfold bl; rw [h]
  · intro h
    have : tx l = t := by rw [h, tx_bl]
    rw [this]
end Go.Proofs.YtpgiljibicigeaaGreatDoor

/- quote: written walked. -/
namespace Go.Proofs.YtpgiljibicigeaaGreatDoor
open Go.RowKit UM QM

end Go.Proofs.YtpgiljibicigeaaGreatDoor
