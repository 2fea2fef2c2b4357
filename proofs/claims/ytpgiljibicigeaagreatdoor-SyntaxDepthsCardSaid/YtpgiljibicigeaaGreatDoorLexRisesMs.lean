/- lex: what the law LexRises looks at; its 'great'. -/
import Derived.Test.YtpgiljibicigeaaGreatDoorSynPas
import Derived.Test.YtpgiljibicigeaaGreatDoorLexO
import Derived.Test.YtpgiljibicigeaaGreatDoorCards
import Derived.Test.YtpgiljibicigeaaGreatDoorTie
import Derived.ProofKit
import Derived.OpenShut
import Derived.ShutString
import Derived.ChangeOld
import Derived.Deep.DeepHandedRow
import Derived.Lib.LaidTab
import Derived.Lib.SmallJoins
import Derived.Deep.Strs
import Derived.SizedLaws
import Derived.LaidSub
set_option linter.unusedVariables false
set_option linter.unusedSimpArgs false
namespace Go.Proofs.YtpgiljibicigeaaGreatDoor
open Go.RowKit UM QM LX

theorem ck_len {n : Nat} : ∀ {L : List Tk} {lo : Nat} {st : List Nat}, ckT n lo st L = true → L = [] ∨ lo + L.length ≤ n
  | [], _, _, _ => .inl rfl
  | (k, x, a) :: L, lo, st, h => by
    simp only [ckT, Bool.and_eq_true, decide_eq_true_eq] at h
    obtain ⟨h1, h2⟩ := h
    have key : ∀ st', ckT n (a + 1) st' L = true → (L = [] ∨ a + 1 + L.length ≤ n) := fun st' h => ck_len h
    have : L = [] ∨ a + 1 + L.length ≤ n := by
      split at h2
      · exact key _ h2
      split at h2
      · rw [Bool.and_eq_true] at h2; exact key _ h2.2
      split at h2
      · rw [Bool.and_eq_true] at h2; exact key _ h2.2
      split at h2
      · rw [Bool.and_eq_true] at h2; exact key _ h2.2
      · exact key _ h2
    right
    rcases this with rfl | h3
    · simp; omega
    · simp; omega
theorem ck_round {n lo k a : Nat} {st x : List Nat} {L : List Tk} (h : ckT n lo st ((k, x, a) :: L) = true) :
    (lo ≤ a ∧ a < n ∧ 1 ≤ k ∧ k ≤ 11) ∧ (((k = 7 ∨ k = 9) ∧ ckT n (a + 1) (k :: st) L = true) ∨ (k = 11 ∧ ∃ t, st = 7 :: t ∧ ckT n (a + 1) t L = true) ∨ (k = 10 ∧ ∃ t, st = 9 :: t ∧ ckT n (a + 1) t L = true) ∨ (k = 8 ∧ x ≠ [] ∧ ∃ t, st = 7 :: t ∧ ckT n (a + 1) (7 :: t) L = true) ∨ (k ≤ 6 ∧ ckT n (a + 1) st L = true)) := by
  simp only [ckT, Bool.and_eq_true, decide_eq_true_eq] at h
  obtain ⟨h1, h2⟩ := h
  refine ⟨h1, ?_⟩
  have hd : ∀ v, st.head? = some v → ∃ t, st = v :: t ∧ st.tail = t := by
    intro v hv
    cases st with
    | nil => simp at hv
    | cons c t => exact ⟨t, by rw [show c = v by simpa using hv], rfl⟩
  split at h2
  · rename_i hk; exact .inl ⟨hk, h2⟩
  split at h2
  · rename_i hk
    rw [Bool.and_eq_true, decide_eq_true_eq] at h2
    obtain ⟨t, e1, e2⟩ := hd _ h2.1
    exact .inr (.inl ⟨hk, t, e1, by rw [← e2]; exact h2.2⟩)
  split at h2
  · rename_i hk
    rw [Bool.and_eq_true, decide_eq_true_eq] at h2
    obtain ⟨t, e1, e2⟩ := hd _ h2.1
    exact .inr (.inr (.inl ⟨hk, t, e1, by rw [← e2]; exact h2.2⟩))
  split at h2
  · rename_i hk
    rw [Bool.and_eq_true, decide_eq_true_eq] at h2
    obtain ⟨t, e1, e2⟩ := hd _ h2.1.1
    exact .inr (.inr (.inr (.inl ⟨hk, h2.1.2, t, e1, by rw [← e1]; exact h2.2⟩)))
  · exact .inr (.inr (.inr (.inr ⟨by omega, h2⟩)))
theorem tkF_ck (l : List Nat) : ((tkF l).2.2 = 0 → ckT l.length 0 [] (tkF l).1 = true ∧ l.length ≤ 100000) ∧ ((tkF l).2.2 ≠ 0 → (tkF l).1 = [] ∧ (tkF l).2.1 ≤ l.length) := by
  unfold tkF
  by_cases h1 : 100000 < l.length
  · rw [if_pos h1]; exact ⟨fun h => by simp at h, fun _ => ⟨rfl, Nat.zero_le _⟩⟩
  rw [if_neg h1]
  by_cases h2 : vd l < l.length
  · rw [if_pos h2]; exact ⟨fun h => by simp at h, fun _ => ⟨rfl, Nat.le_of_lt h2⟩⟩
  rw [if_neg h2]
  by_cases h3 : (lxR (l.length + 1) [] 0 l).2.2 = 0
  · rw [if_pos h3]
    refine ⟨fun _ => ⟨?_, by omega⟩, fun h => absurd rfl h⟩
    have := lx_ck (l.length + 1) [] 0 l 0 (lxR (l.length + 1) [] 0 l).1 (lxR (l.length + 1) [] 0 l).2.1 Wo.nil (Nat.le_refl _) (Prod.ext rfl (Prod.ext rfl h3))
    rwa [Nat.zero_add] at this
  · rw [if_neg h3]
    refine ⟨fun h => absurd h h3, fun _ => ⟨rfl, ?_⟩⟩
    have := lx_at (l.length + 1) [] 0 l
    rwa [Nat.zero_add] at this
/-- is the text longer than the laws look at? -/
def gre (n : Nat) : Bool := decide (3000 < n) && decide (n ≤ 100000)
end Go.Proofs.YtpgiljibicigeaaGreatDoor

/- syntax: how long the tokens' texts are. -/
namespace Go.Proofs.YtpgiljibicigeaaGreatDoor.LX
open Go.RowKit UM QM

theorem sgnR_l15 (r : List Nat) : (sgnR r).length ≤ r.length := by
  by_cases h : sgnR r = []
  · rw [h]; exact Nat.zero_le _
  · exact (pfx_le (fsF_mem h).2).1
theorem tkR_x15 (op : List Nat) (c : Nat) (t : List Nat) : (tkR op (c :: t)).2.2.1.length ≤ (c :: t).length := by
  have h1 := sgnR_l15 (c :: t)
  have h2 : ∀ n, ((c :: t).take n).length ≤ (c :: t).length := fun n => by rw [List.length_take]; exact Nat.min_le_right _ _
  have h3 : ∀ n, (t.take n).length ≤ (c :: t).length := fun n => by rw [List.length_take, List.length_cons]; omega
  simp only [tkR]
  split
  · exact h2 _
  split
  · exact h2 _
  split
  · exact h3 _
  split
  · exact h3 _
  split
  · exact h2 _
  split
  · split <;> exact Nat.zero_le _
  split
  · exact Nat.zero_le _
  split
  · exact Nat.zero_le _
  split
  · simp
  split
  · simp
  · exact h1
theorem pc_sz : ∀ (f : Nat) (r : List Nat), (pcR f r).2.2.length ≤ 8 * (pcR f r).2.1
  | 0, r => by simp [pcR]
  | f + 1, [] => by simp [pcR]
  | f + 1, c :: t => by
    simp only [pcR]
    by_cases h34 : c = 34
    · rw [if_pos h34]; simp
    rw [if_neg h34]
    by_cases h40 : c = 92 ∧ t.head? = some 40
    · rw [if_pos h40]; simp
    rw [if_neg h40]
    by_cases h92 : c = 92
    · rw [if_pos h92]
      have h40' : ((c :: t).drop 1).head? ≠ some 40 := fun h => h40 ⟨h92, h⟩
      have hh : (c :: t).head? = some 92 := by rw [h92]; rfl
      split
      · have ih := pc_sz f ((c :: t).drop (rowR (c :: t)).length)
        have he := row_enc (c :: t) hh h40'
        have hp : 0 < (rowR (c :: t)).length := by
          have := (rdR_row (c :: t) hh h40').2.2.2.2.2.2
          cases hq : rowR (c :: t) with
          | nil => rw [hq] at this; simp at this
          | cons a b => simp
        unfold app
        simp only [List.length_append]
        omega
      · split <;> simp
    · rw [if_neg h92]
      have ih := pc_sz f t
      unfold app
      simp only [List.length_append, List.length_cons, List.length_nil]
      omega
theorem lx_x8 : ∀ (f : Nat) (op : List Nat) (p : Nat) (r : List Nat), ∀ u ∈ (lxR f op p r).1, u.2.1.length ≤ 8 * r.length
  | 0, _, _, _, u, hu => by simp [lxR] at hu
  | f + 1, op, p, r, u, hu => by
    have key : ∀ op p n, u ∈ (lxR f op p (r.drop n)).1 → u.2.1.length ≤ 8 * r.length := fun op p n h => by
      have := lx_x8 f op p (r.drop n) u h
      rw [List.length_drop] at this; omega
    simp only [lxR] at hu
    by_cases h1 : r.drop (skR op r) = []
    · rw [if_pos h1] at hu; simp at hu
    rw [if_neg h1] at hu
    by_cases hi : inn op = 1
    · rw [if_pos hi] at hu
      have hs := pc_sz r.length r
      have hl := (pc_spec r.length r).2.2.1
      generalize pcR r.length r = q at hu hs hl
      have ht : ∀ p, u ∈ txR p q.2.1 q.2.2 → u.2.1.length ≤ 8 * r.length := fun p h => by
        unfold txR at h; split at h
        · rw [List.mem_singleton] at h; subst h; simp only; omega
        · simp at h
      split at hu
      · simp only [LX.pre, List.mem_append, List.mem_singleton] at hu
        rcases hu with (hu | hu) | hu
        · exact ht _ hu
        · subst hu; simp
        · exact key _ _ _ hu
      split at hu
      · simp only [LX.pre, List.mem_append, List.mem_singleton] at hu
        rcases hu with (hu | hu) | hu
        · exact ht _ hu
        · subst hu; simp
        · exact key _ _ _ hu
      split at hu <;> simp at hu
    · rw [if_neg hi] at hu
      obtain ⟨c, t, hct⟩ : ∃ c t, r.drop (skR op r) = c :: t := by
        cases hq : r.drop (skR op r) with
        | nil => exact absurd hq h1
        | cons c t => exact ⟨c, t, rfl⟩
      have hx := tkR_x15 op c t
      have hl : (c :: t).length ≤ r.length := by rw [← hct, List.length_drop]; omega
      rw [hct] at hu
      generalize tkR op (c :: t) = q at hu hx
      split at hu
      · simp only [LX.pre, List.mem_append, List.mem_singleton] at hu
        rcases hu with hu | hu
        · subst hu; have h9 := Nat.le_trans hx hl; simp only; omega
        · exact key _ _ _ hu
      · simp at hu
theorem tk_x8 (l : List Nat) (h0 : (tkF l).2.2 = 0) : ∀ u ∈ (tkF l).1, u.2.1.length ≤ 8 * l.length := by
  unfold tkF at h0 ⊢
  split
  · intro u hu; simp at hu
  split
  · intro u hu; simp at hu
  split
  · exact lx_x8 _ _ _ _
  · intro u hu; simp at hu
theorem ck_all {n : Nat} : ∀ {L : List Tk} {lo : Nat} {st : List Nat}, ckT n lo st L = true → ∀ u ∈ L, u.1 ≤ 11 ∧ u.2.2 < n
  | [], _, _, _, u, hu => by simp at hu
  | (k, x, a) :: L, lo, st, h, u, hu => by
    obtain ⟨h1, h2⟩ := ck_round h
    rcases List.mem_cons.1 hu with rfl | hu
    · exact ⟨h1.2.2.2, h1.2.1⟩
    · rcases h2 with ⟨_, h⟩ | ⟨_, _, _, h⟩ | ⟨_, _, _, h⟩ | ⟨_, _, _, _, h⟩ | ⟨_, h⟩
      all_goals exact ck_all h u hu
theorem tkR_n5 (op r : List Nat) : (tkR op r).1 ≠ 5 := by
  cases r with
  | nil => simp [tkR]
  | cons c t =>
    simp only [tkR]
    repeat' split
    all_goals (show (_ : Nat) ≠ 5; simp)
theorem lx_5 : ∀ (f : Nat) (op : List Nat) (p : Nat) (r : List Nat), (lxR f op p r).2.2 = 5 → (lxR f op p r).2.1 = p + r.length
  | 0, _, _, _, h => by simp [lxR] at h
  | f + 1, op, p, r, h => by
    have hsk := skR_le op r
    simp only [lxR] at h ⊢
    by_cases h1 : r.drop (skR op r) = []
    · rw [if_pos h1]
    rw [if_neg h1] at h ⊢
    have hpre : ∀ l q, (pre l q).2.1 = q.2.1 := fun _ _ => rfl
    have hpr2 : ∀ l q, (pre l q).2.2 = q.2.2 := fun _ _ => rfl
    by_cases hi : inn op = 1
    · rw [if_pos hi] at h ⊢
      have hsp := pc_spec r.length r
      generalize pcR r.length r = q at hsp h ⊢
      by_cases e0 : q.1 = 0
      · rw [if_pos e0] at h ⊢
        rw [hpr2] at h
        have ih := lx_5 f _ _ _ h
        have := hsp.1 e0
        rw [List.length_drop] at ih
        rw [hpre]; omega
      rw [if_neg e0] at h ⊢
      by_cases e1 : q.1 = 1
      · rw [if_pos e1] at h ⊢
        rw [hpr2] at h
        have ih := lx_5 f _ _ _ h
        have := hsp.2.1 e1
        rw [List.length_drop] at ih
        rw [hpre]; omega
      rw [if_neg e1] at h ⊢
      by_cases e5 : q.1 = 5
      · rw [if_pos e5]
      · rw [if_neg e5] at h; simp at h
    · rw [if_neg hi] at h ⊢
      obtain ⟨c, t, hct⟩ : ∃ c t, r.drop (skR op r) = c :: t := by
        cases hq : r.drop (skR op r) with
        | nil => exact absurd hq h1
        | cons c t => exact ⟨c, t, rfl⟩
      have hcl : (c :: t).length = r.length - skR op r := by rw [← hct, List.length_drop]
      have hn5 := tkR_n5 op (c :: t)
      have heff := tk_eff op c t
      rw [hct] at h ⊢
      generalize tkR op (c :: t) = q at heff h hn5 ⊢
      by_cases e0 : q.1 = 0
      · rw [if_pos e0] at h ⊢
        rw [hpr2] at h
        have ih := lx_5 f _ _ _ h
        rw [List.length_drop] at ih
        obtain ⟨_, hn2, _⟩ := heff e0
        rw [hpre]; omega
      · rw [if_neg e0] at h; exact absurd h hn5
theorem tk_5 (l : List Nat) (h : (tkF l).2.2 = 5) : (tkF l).2.1 = l.length := by
  unfold tkF at h ⊢
  split at h
  · simp at h
  rename_i h1
  rw [if_neg h1]
  split at h
  · simp at h
  rename_i h2
  rw [if_neg h2]
  split at h
  · simp at h
  rename_i h3
  rw [if_neg h3]
  have := lx_5 _ _ _ _ h
  simpa using this
end Go.Proofs.YtpgiljibicigeaaGreatDoor.LX

/- syntax: what is read of a text is fit for the parser. -/
namespace Go.Proofs.YtpgiljibicigeaaGreatDoor
open Go.RowKit UM QM LX SX

theorem num_err (s : ByteArray) : (prsA s).err ≠ 5 := by
  unfold prsA
  split
  · decide
  · split
    · split
      · decide
      · unfold LM.tellA; split <;> simp
    · decide
theorem evS_ok (s : ByteArray) (h0 : (tkF (bl s)).2.2 = 0) : EvA (evS s) := by
  obtain ⟨hck, hn⟩ := (tkF_ck (bl s)).1 h0
  have hbl := bl_len s
  have hall := ck_all hck
  have h8 := tk_x8 (bl s) h0
  have key : ∀ t ∈ (evS s).L, t.1 ≤ 11 ∧ t.2.2 < s.size ∧ t.2.1.size ≤ 1000000 := fun t ht => by
    obtain ⟨u, hu, rfl⟩ := List.mem_map.1 ht
    have h1 := hall u hu
    have h2 := h8 u hu
    exact ⟨h1.1, by show u.2.2 < _; omega, by show (tx u.2.1).size ≤ _; rw [tx_size]; omega⟩
  refine ⟨⟨?_, by show s.size ≤ _; omega, fun t ht => ?_⟩, ⟨fun t ht => ?_, fun s => num_err s⟩, rfl, rfl⟩
  · show ((tkF (bl s)).1.map _).length ≤ _
    rw [List.length_map]
    rcases ck_len hck with h | h
    · rw [h]; simp
    · omega
  · have := key t ht
    exact ⟨this.1, by omega, this.2.2⟩
  · exact Nat.le_of_lt (key t ht).2.1
/-- Parse, of any text -/
theorem Parse_all (s : ByteArray) (w : World) (hs : s.size ≤ 140737488351232) (ht : Sh w) (hsg : Sg w) (htb : TBs w) :
    Calls Tryz.prog 9 #[.string s] w (ResPs (parF s) w) := Parse_any s w hs ht hsg htb (evS_ok s)
end Go.Proofs.YtpgiljibicigeaaGreatDoor

/- syntax: right walked. -/
namespace Go.Proofs.YtpgiljibicigeaaGreatDoor
open Go.RowKit UM QM LX SX

end Go.Proofs.YtpgiljibicigeaaGreatDoor

/- What every law14 row wants: the tables, the start, the arguments. -/
namespace Go.Proofs.YtpgiljibicigeaaGreatDoor
open Go.ChangeShapes Go.WideShapes Go.ChangeAt Go.RowKit UM LX

theorem ownK : ownKnob Tryz.prog.godebug = none := by kernel_rfl
theorem laidOut : laidOutB Tryz.prog = true := by kernel_rfl
theorem cellsSh : Tryz.prog.cellsOf 67 = 3 := by kernel_rfl
theorem cellsShs : Tryz.prog.cellsOf 68 = 12 := by kernel_rfl
theorem cellsI : Tryz.prog.cellsOf 3 = 1 := by kernel_rfl
theorem cellsB : Tryz.prog.cellsOf 5 = 1 := by kernel_rfl
theorem gTab : Tryz.prog.globalNamed "lorgnette/utf.shapes" = some 0 := by kernel_rfl
theorem gTabType : (Tryz.prog.globals[0]?).map (·.type) = some 68 := by kernel_rfl

theorem three_of {cs : List Value} (h : cs.length = 3) : ∃ a b c, cs = [a, b, c] := by
  match cs, h with
  | [a, b, c], _ => exact ⟨a, b, c, rfl⟩
theorem shape_cells {H : Type} {enc : TypeId × Value → H} {w : World} {base : Nat} {sp : Nat → Bool} {held : Bool} {fuel : Nat} {cs : List Value} {A B C : Int} {p : List MemPlace}
    (h : DataW.trod enc Tryz.prog w base sp held fuel 67 cs = some (.agg [.lit (.int .i64 A), .lit (.int .u8 B), .lit (.int .u8 C)], p)) : cs = [.int .i64 A, .int .u8 B, .int .u8 C] := by
  obtain ⟨y0, y1, y2, n, hx, hl, h0, h1, h2⟩ := Go.Deep.trod_struct3 Tryz.underlying67 h
  rw [cellsSh] at hl
  obtain ⟨c0, c1, c2, rfl⟩ := three_of hl
  · simp only [cellsI, cellsB, List.drop_zero, List.drop_succ_cons, List.take_succ_cons, List.take_zero] at h0 h1 h2
    obtain ⟨n0, e0, f0, _⟩ := DataW.trod_int Tryz.underlying3 h0
    obtain ⟨n1, e1, f1, _⟩ := DataW.trod_int Tryz.underlying5 h1
    obtain ⟨n2, e2, f2, _⟩ := DataW.trod_int Tryz.underlying5 h2
    subst f0 f1 f2
    simp only [Prod.mk.injEq, DataW.agg.injEq, List.cons.injEq, DataW.lit.injEq, Lit.int.injEq, true_and, and_true] at hx
    simp only [List.cons.injEq, and_true] at e0 e1 e2
    obtain ⟨⟨r0, r1, r2⟩, _⟩ := hx
    rw [e0, e1, e2, r0, r1, r2]
theorem shapes_cells {H : Type} {enc : TypeId × Value → H} {w : World} {base : Nat} {sp : Nat → Bool} {held : Bool} {fuel : Nat} {cs : List Value} {p : List MemPlace}
    (h : DataW.trod enc Tryz.prog w base sp held fuel 68 cs = some (Rows.laid_lorgnette_utf_shapes, p)) :
    (cs.drop 0).take 3 = [.int .i64 127, .int .u8 0, .int .u8 127] ∧ (cs.drop 3).take 3 = [.int .i64 2047, .int .u8 192, .int .u8 31] ∧ (cs.drop 6).take 3 = [.int .i64 65535, .int .u8 224, .int .u8 15] ∧ (cs.drop 9).take 3 = [.int .i64 1114111, .int .u8 240, .int .u8 7] := by
  cases fuel with
  | zero => simp [DataW.trod] at h
  | succ fuel =>
    simp only [DataW.trod, Tryz.underlying68, cellsSh, cellsShs] at h
    split at h
    · obtain ⟨xs, hm, hx⟩ := Option.map_eq_some_iff.1 h
      have hxs := congrArg Prod.fst hx
      unfold Rows.laid_lorgnette_utf_shapes at hxs
      simp only [DataW.agg.injEq] at hxs
      obtain ⟨b0, hb0, f0⟩ := Lib.mapM_at hm 0 0 (by simp)
      obtain ⟨b1, hb1, f1⟩ := Lib.mapM_at hm 1 1 (by simp)
      obtain ⟨b2, hb2, f2⟩ := Lib.mapM_at hm 2 2 (by simp)
      obtain ⟨b3, hb3, f3⟩ := Lib.mapM_at hm 3 3 (by simp)
      have g0 := congrArg (·[0]?) hxs
      have g1 := congrArg (·[1]?) hxs
      have g2 := congrArg (·[2]?) hxs
      have g3 := congrArg (·[3]?) hxs
      simp [hb0] at g0
      simp [hb1] at g1
      simp [hb2] at g2
      simp [hb3] at g3
      obtain ⟨d0, q0⟩ := b0; obtain ⟨d1, q1⟩ := b1; obtain ⟨d2, q2⟩ := b2; obtain ⟨d3, q3⟩ := b3
      simp only at g0 g1 g2 g3
      subst g0 g1 g2 g3
      exact ⟨shape_cells f0, shape_cells f1, shape_cells f2, shape_cells f3⟩
    · cases h
theorem cellAt {cs : List Value} {j : Nat} {x y z : Value} (h : (cs.drop j).take 3 = [x, y, z]) : cs[j]? = some x ∧ cs[j + 1]? = some y ∧ cs[j + 2]? = some z := by
  have h0 := congrArg (·[0]?) h
  have h1 := congrArg (·[1]?) h
  have h2 := congrArg (·[2]?) h
  simp [List.getElem?_drop] at h0 h1 h2
  exact ⟨h0, h1, h2⟩
theorem cellsS : Tryz.prog.cellsOf 9 = 1 := by kernel_rfl
theorem cells33 : Tryz.prog.cellsOf 116 = 33 := by kernel_rfl
theorem cells15 : Tryz.prog.cellsOf 150 = 15 := by kernel_rfl
/-- one cell of a table of texts -/
theorem str_cell {H : Type} {enc : TypeId × Value → H} {w : World} {base : Nat} {sp : Nat → Bool} {held : Bool} {fuel i : Nat} {cs : List Value} {L : List (List Nat)} {xs : List (DataW H × List MemPlace)} {b : DataW H × List MemPlace} {l : List Nat}
    (hxs : xs.map (·.1) = L.map (fun l => .lit (.string (l.map UInt8.ofNat)))) (hb : xs[i]? = some b) (hl : L[i]? = some l) (f : DataW.trod enc Tryz.prog w base sp held fuel 9 ((cs.drop (i * 1)).take 1) = some b) : cs[i]? = some (.string (tx l)) := by
  obtain ⟨s, h1, h2, _⟩ := DataW.trod_string Tryz.underlying9 f
  have g := congrArg (·[i]?) hxs
  simp only [List.getElem?_map, hb, hl, Option.map_some, Option.some.injEq] at g
  rw [h2] at g
  simp only [DataW.lit.injEq, Lit.string.injEq] at g
  have h3 := congrArg (·[0]?) h1
  simp only [Nat.mul_one, List.getElem?_take, List.getElem?_drop, Nat.add_zero, List.getElem?_cons_zero] at h3
  rw [if_pos (by decide)] at h3
  rw [h3]
  congr 2
  unfold tx
  rcases s with ⟨⟨d⟩⟩
  simp only at g
  rw [g]
theorem signs_cells {H : Type} {enc : TypeId × Value → H} {w : World} {base : Nat} {sp : Nat → Bool} {held : Bool} {fuel : Nat} {cs : List Value} {p : List MemPlace}
    (h : DataW.trod enc Tryz.prog w base sp held fuel 116 cs = some (Rows.laid_lorgnette_lex_signs, p)) : ∀ i, i < 33 → cs[i]? = some (.string (sgT i)) := by
  cases fuel with
  | zero => simp [DataW.trod] at h
  | succ fuel =>
    simp only [DataW.trod, Tryz.underlying116, cellsS, cells33] at h
    split at h
    · obtain ⟨xs, hm, hx⟩ := Option.map_eq_some_iff.1 h
      have hxs := congrArg Prod.fst hx
      have hsp : (Rows.laid_lorgnette_lex_signs : DataW H) = .agg (sgL.map (fun l => .lit (.string (l.map UInt8.ofNat)))) := rfl
      rw [hsp] at hxs
      simp only [DataW.agg.injEq] at hxs
      intro i hi
      obtain ⟨b, hb, f⟩ := Lib.mapM_at hm i i (by simp [hi])
      have h33 : i < sgL.length := hi
      have hl : sgL[i]? = some sgL[i] := List.getElem?_eq_getElem h33
      have := str_cell hxs hb hl f
      rw [this]; unfold sgT; rw [hl]; rfl
    · cases h
theorem words_cells {H : Type} {enc : TypeId × Value → H} {w : World} {base : Nat} {sp : Nat → Bool} {held : Bool} {fuel : Nat} {cs : List Value} {p : List MemPlace}
    (h : DataW.trod enc Tryz.prog w base sp held fuel 150 cs = some (Rows.laid_lorgnette_lex_words, p)) : ∀ i, i < 15 → cs[i]? = some (.string (wdT i)) := by
  cases fuel with
  | zero => simp [DataW.trod] at h
  | succ fuel =>
    simp only [DataW.trod, Tryz.underlying150, cellsS, cells15] at h
    split at h
    · obtain ⟨xs, hm, hx⟩ := Option.map_eq_some_iff.1 h
      have hxs := congrArg Prod.fst hx
      have hsp : (Rows.laid_lorgnette_lex_words : DataW H) = .agg (wdL.map (fun l => .lit (.string (l.map UInt8.ofNat)))) := rfl
      rw [hsp] at hxs
      simp only [DataW.agg.injEq] at hxs
      intro i hi
      obtain ⟨b, hb, f⟩ := Lib.mapM_at hm i i (by simp [hi])
      have h15 : i < wdL.length := hi
      have hl : wdL[i]? = some wdL[i] := List.getElem?_eq_getElem h15
      have := str_cell hxs hb hl f
      rw [this]; unfold wdT; rw [hl]; rfl
    · cases h
theorem one_of {L : List (String × DataW Unit)} {W : World} (h : laidMetH Tryz.prog L W) (n : String) {d : DataW Unit} (he : (L.filter fun x => x.2.handleName?.isNone).filter (fun x => x.1 == n) = [(n, d)]) : laidMet Tryz.prog [(n, d)] W := by
  have h1 := (laidMetH_iff.1 h).1
  have h2 := laidMet.filter (fun x => x.1 == n) h1
  rw [he] at h2
  exact h2
theorem gSg : Tryz.prog.globalNamed "lorgnette/lex.signs" = some 2 := by kernel_rfl
theorem gSgType : (Tryz.prog.globals[2]?).map (·.type) = some 116 := by kernel_rfl
theorem gWd : Tryz.prog.globalNamed "lorgnette/lex.words" = some 4 := by kernel_rfl
theorem gWdType : (Tryz.prog.globals[4]?).map (·.type) = some 150 := by kernel_rfl
theorem sh_of {W : World} (h' : laidMet Tryz.prog [("lorgnette/utf.shapes", Rows.laid_lorgnette_utf_shapes)] W) : Sh W := by
  obtain ⟨ps, ⟨g', t', cs, fuel, p, q, hg', ht', hvar, hd, _, _⟩, _⟩ := h'
  obtain rfl := Option.some.inj (gTab.symm.trans hg')
  obtain rfl := Option.some.inj (gTabType.symm.trans ht')
  obtain ⟨c0, c1, c2, c3⟩ := shapes_cells hd
  obtain ⟨k0, k1, k2⟩ := cellAt c0
  obtain ⟨k3, k4, k5⟩ := cellAt c1
  obtain ⟨k6, k7, k8⟩ := cellAt c2
  obtain ⟨k9, k10, k11⟩ := cellAt c3
  have key : ∀ (i : Nat) (v : Value), cs.toList[i]? = some v → W.cell? ⟨0, i, none⟩ = some v := fun i v hv => by
    have := World.var?_cell gTab hvar i
    rw [this, ← Array.getElem?_toList]
    exact hv
  exact ⟨key _ _ k0, key _ _ k1, key _ _ k2, key _ _ k3, key _ _ k4, key _ _ k5, key _ _ k6, key _ _ k7, key _ _ k8, key _ _ k9, key _ _ k10, key _ _ k11⟩
theorem sg_of {W : World} (h' : laidMet Tryz.prog [("lorgnette/lex.signs", Rows.laid_lorgnette_lex_signs)] W) : Sg W := by
  obtain ⟨ps, ⟨g', t', cs, fuel, p, q, hg', ht', hvar, hd, _, _⟩, _⟩ := h'
  obtain rfl := Option.some.inj (gSg.symm.trans hg')
  obtain rfl := Option.some.inj (gSgType.symm.trans ht')
  have hc := signs_cells hd
  intro i hi
  have := World.var?_cell gSg hvar i
  rw [this, ← Array.getElem?_toList]
  exact hc i hi
theorem wd_of {W : World} (h' : laidMet Tryz.prog [("lorgnette/lex.words", Rows.laid_lorgnette_lex_words)] W) : Wd W := by
  obtain ⟨ps, ⟨g', t', cs, fuel, p, q, hg', ht', hvar, hd, _, _⟩, _⟩ := h'
  obtain rfl := Option.some.inj (gWd.symm.trans hg')
  obtain rfl := Option.some.inj (gWdType.symm.trans ht')
  have hc := words_cells hd
  intro i hi
  have := World.var?_cell gWd hvar i
  rw [this, ← Array.getElem?_toList]
  exact hc i hi
def setB (h : Array Obj) (g : Nat) (cs : Array Value) : Array Obj := h.modify g fun
  | .cells _ t frozen => .cells cs t frozen
  | o => o
/-- the cells of a table's data -/
def flatD : Nat → DataW Unit → List Value
  | 0, _ => []
  | _ + 1, .lit (.int k z) => [.int k z]
  | _ + 1, .lit (.string l) => [.string ⟨l.toArray⟩]
  | n + 1, .agg l => l.flatMap (flatD n)
  | _ + 1, _ => []
end Go.Proofs.YtpgiljibicigeaaGreatDoor
