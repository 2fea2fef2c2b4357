/- lex: Tokens walked; what the statements' head asks. -/
import Derived.Test.YtjjacffacmpopaaDoorLexP
namespace Go.Proofs.YtjjacffacmpopaaDoor
open Go.RowKit UM QM LX

theorem LBX.fresh (s : ByteArray) (w : World) : LB (w.alloc (.cells #[.string s, .int .i64 0, .slice none 0 0, .slice none 0 0, .int .i64 0] 40)) w.heap.size s 0 [] [] 0 :=
  ⟨none, 0, none, 0, cell_new rfl, cell_new rfl, cell_new rfl, cell_new rfl, cell_new rfl, fun _ => frz_new rfl, OwnV.nil _ _ _ _, OwnV.nil _ _ _ _, Nat.zero_le _⟩
def ResTs (l : List Nat) (w : World) (e : Ending) (w' : World) : Prop :=
  ∃ ao c, e = .returned (.tuple #[.slice ao (tkF l).1.length c, .int .i64 ((tkF l).2.1 : Int), .int .i64 ((tkF l).2.2 : Int)]) ∧ OwnV w' w.heap.size 30 3 ao (tkF l).1.length c (tkc (tkF l).1) ∧ Below w.heap.size w w'
theorem ResTs.nil {l : List Nat} {w w' : World} {x y : Nat} (h : tkF l = ([], x, y)) (hb : Below w.heap.size w w') {vx vy : Int} (hx : vx = (x : Int)) (hy : vy = (y : Int)) : ResTs l w (.returned (.tuple #[.slice none 0 0, .int .i64 vx, .int .i64 vy])) w' := by
  subst hx hy
  refine ⟨none, 0, by rw [h]; rfl, ?_, hb⟩
  rw [h]; exact OwnV.nil _ _ _ _
set_option maxRecDepth 100000 in
set_option maxHeartbeats 4000000 in
theorem Tokens_any (s : ByteArray) (w : World) (hs : s.size ≤ 140737488351232) (ht : Sh w) (hsg : Sg w) :
    Calls Tryd.prog 13 #[.string s] w (ResTs (bl s) w) := by
  have hl := bl_len s
  by_cases h1 : 100000 < s.size
  · have hq : tkF (bl s) = ([], 0, 10) := by unfold tkF; rw [if_pos (by omega)]
    have HQ := Lib.hid hq
    have h1' : (100000 : Int) < (s.size : Int) := by omega
    clear hq hl h1
    go_enter Tryd.func13, Tryd.ntmps13
    go_wp2
    refine bodyPost_ret (v := .tuple #[.slice none 0 0, .int .i64 0, .int .i64 10]) (by simp [results, Tryd.results13, go_sem]) rfl ?_
    exact ResTs.nil HQ.out (Below.refl _ _) rfl rfl
  have h1' : ¬ (100000 : Int) < (s.size : Int) := by omega
  have HV := Lib.hid (Valid_any s w hs ht)
  by_cases h2 : vd (bl s) < s.size
  · have hq : tkF (bl s) = ([], vd (bl s), 7) := by unfold tkF; rw [if_neg (by omega), if_pos (by omega)]
    have HQ := Lib.hid hq
    have h2' : ((vd (bl s) : Nat) : Int) < (s.size : Int) := by omega
    clear hq hl h1 h2
    generalize vd (bl s) = v at *
    go_enter Tryd.func13, Tryd.ntmps13
    go_wp2_with fail
    refine HV.out.mono ?_
    rintro e w1 ⟨rfl, hb⟩
    have HB := Lib.hid hb
    clear hb
    go_wp2
    refine bodyPost_ret (v := .tuple #[.slice none 0 0, .int .i64 (v : Int), .int .i64 7]) (by simp [results, Tryd.results13, go_sem]) rfl ?_
    exact ResTs.nil HQ.out HB.out rfl rfl
  have h2' : ¬ ((vd (bl s) : Nat) : Int) < (s.size : Int) := by omega
  have HS : Hid (s.size ≤ 100000) := Lib.hid (by omega)
  have HQ : Hid (tkF (bl s) = if (lxR ((bl s).length + 1) [] 0 (bl s)).2.2 = 0 then ((lxR ((bl s).length + 1) [] 0 (bl s)).1, 0, 0) else ([], (lxR ((bl s).length + 1) [] 0 (bl s)).2)) := Lib.hid (by unfold tkF; rw [if_neg (by omega), if_neg (by omega)])
  have HTs : Hid (1 < w.heap.size ∧ 2 < w.heap.size) := Lib.hid ⟨lt_of_cell ht.1, lt_of_cell (hsg 0 (by decide))⟩
  have HSh := Lib.hid ht; have HSg := Lib.hid hsg
  have HA := Lib.hid (fun g W (h : LB W g s 0 [] [] 0) (a : Sh W) (b : Sg W) (c : 1 < g) (d : 2 < g) => lxAll_any g s W h a b HS.out c d)
  clear hl h1 h2 ht hsg hs HS
  generalize lxR ((bl s).length + 1) [] 0 (bl s) = R at *
  generalize vd (bl s) = v at *
  go_enter Tryd.func13, Tryd.ntmps13
  go_wp2_with fail
  refine HV.out.mono ?_
  rintro e w1 ⟨rfl, hb⟩
  have HB := Lib.hid hb
  have HL := Lib.hid (LBX.fresh s w1)
  have hbA : Below w1.heap.size w1 (w1.alloc (.cells #[.string s, .int .i64 0, .slice none 0 0, .slice none 0 0, .int .i64 0] 40)) := (Below.refl _ _).alloc (Nat.le_refl _) _
  have HC := Lib.hid (HA.out w1.heap.size _ HL.out ((HSh.out.below hb).below hbA) ((HSg.out.below hb).below hbA) (Nat.lt_of_lt_of_le HTs.out.1 hb.size) (Nat.lt_of_lt_of_le HTs.out.2 hb.size))
  have HBA := Lib.hid hbA
  clear hb HV HA HL hbA
  go_wp2_with fail
  refine HC.out.mono ?_
  rintro e w2 ⟨rfl, hf, p, T, op, m, ⟨a1, k1, a2, k2, hb⟩, hT, hp⟩
  have hbel : Below w.heap.size w w2 := HB.out.trans ((HBA.out.mono HB.out.size).trans (hf.1.mono HB.out.size))
  have HBL := Lib.hid hbel
  have hw : w.heap.size ≤ w1.heap.size + 1 := Nat.le_succ_of_le HB.out.size
  by_cases h0 : R.2.2 = 0
  · have hTR := hT h0
    have hq := HQ.out
    rw [if_pos h0] at hq
    have HR : Hid (ResTs (bl s) w (.returned (.tuple #[.slice a1 T.length k1, .int .i64 0, .int .i64 0])) w2) := Lib.hid (by
      refine ⟨a1, k1, by rw [hq, hTR]; rfl, ?_, hbel⟩
      rw [hq]
      have := hb.ot.mono hw
      rw [hTR] at this; exact this)
    have d2 := hb.c2
    have t0 : ((R.2.2 : Int) != 0) = false := by rw [bne_eq_false_iff_eq]; omega
    clear hT hp hb hf hbel h0 hTR hq HQ HC hw
    go_wp2
    refine bodyPost_ret (v := .tuple #[.slice a1 T.length k1, .int .i64 0, .int .i64 0]) (by simp [results, Tryd.results13, go_sem]) rfl ?_
    exact HR.out
  · have hq := HQ.out
    rw [if_neg h0] at hq
    have hpR := hp h0
    have HR : Hid (∀ n, ResTs (bl s) w (.returned (.tuple #[.slice none 0 0, .int .i64 (p : Int), .int .i64 (R.2.2 : Int)])) (w2.drewN n)) := Lib.hid (fun n => by
      refine ResTs.nil (x := R.2.1) (y := R.2.2) hq (bdN hbel n) (by rw [hpR]) rfl)
    have d1 := hb.c1
    have t0 : ((R.2.2 : Int) != 0) = true := by rw [bne_iff_ne]; omega
    clear hT hp hb hf hbel h0 hpR hq HQ HC hw
    go_wp2_with fail
    go_quiet (fail)
    go_wp2
    refine bodyPost_ret (v := .tuple #[.slice none 0 0, .int .i64 (p : Int), .int .i64 (R.2.2 : Int)]) (by simp [results, Tryd.results13, go_sem]) rfl ?_
    exact HR.out _
end Go.Proofs.YtjjacffacmpopaaDoor
