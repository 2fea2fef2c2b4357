/- lex: what the law LexRises looks at; its 'great'. -/
import Derived.Test.YtpgiljibicigeaaGreatDoorSynPas
import Derived.Test.YtpgiljibicigeaaGreatDoorLexO
set_option linter.unusedVariables false
set_option linter.unusedSimpArgs false
namespace Go.Proofs.YtpgiljibicigeaaGreatDoor
open Go.RowKit UM QM LX

theorem ck_len {n : Nat} : ∀ {L : List Tk} {lo : Nat} {st : List Nat}, ckT n lo st L = true → L = [] ∨ lo + L.length ≤ n
  | [], _, _, _ => .inl rfl
  | (k, x, a) :: L, lo, st, h => by
    simp only [ckT, Bool.and_eq_true, decide_eq_true_eq] at h
    obtain ⟨h1, h2⟩ := h
    have key : ∀ st', ckT n (a + 1) st' L = true → (L = [] ∨ a + 1 + L.length ≤ n) := fun st' h => ck_len h
    have : L = [] ∨ a + 1 + L.length ≤ n := by
      split at h2
      · exact key _ h2
      split at h2
      · rw [Bool.and_eq_true] at h2; exact key _ h2.2
      split at h2
      · rw [Bool.and_eq_true] at h2; exact key _ h2.2
      split at h2
      · rw [Bool.and_eq_true] at h2; exact key _ h2.2
      · exact key _ h2
    right
    rcases this with rfl | h3
    · simp; omega
    · simp; omega
theorem ck_round {n lo k a : Nat} {st x : List Nat} {L : List Tk} (h : ckT n lo st ((k, x, a) :: L) = true) :
    (lo ≤ a ∧ a < n ∧ 1 ≤ k ∧ k ≤ 11) ∧ (((k = 7 ∨ k = 9) ∧ ckT n (a + 1) (k :: st) L = true) ∨ (k = 11 ∧ ∃ t, st = 7 :: t ∧ ckT n (a + 1) t L = true) ∨ (k = 10 ∧ ∃ t, st = 9 :: t ∧ ckT n (a + 1) t L = true) ∨ (k = 8 ∧ x ≠ [] ∧ ∃ t, st = 7 :: t ∧ ckT n (a + 1) (7 :: t) L = true) ∨ (k ≤ 6 ∧ ckT n (a + 1) st L = true)) := by
  simp only [ckT, Bool.and_eq_true, decide_eq_true_eq] at h
  obtain ⟨h1, h2⟩ := h
  refine ⟨h1, ?_⟩
  have hd : ∀ v, st.head? = some v → ∃ t, st = v :: t ∧ st.tail = t := by
    intro v hv
    cases st with
    | nil => simp at hv
    | cons c t => exact ⟨t, by rw [show c = v by simpa using hv], rfl⟩
  split at h2
  · rename_i hk; exact .inl ⟨hk, h2⟩
  split at h2
  · rename_i hk
    rw [Bool.and_eq_true, decide_eq_true_eq] at h2
    obtain ⟨t, e1, e2⟩ := hd _ h2.1
    exact .inr (.inl ⟨hk, t, e1, by rw [← e2]; exact h2.2⟩)
  split at h2
  · rename_i hk
    rw [Bool.and_eq_true, decide_eq_true_eq] at h2
    obtain ⟨t, e1, e2⟩ := hd _ h2.1
    exact .inr (.inr (.inl ⟨hk, t, e1, by rw [← e2]; exact h2.2⟩))
  split at h2
  · rename_i hk
    rw [Bool.and_eq_true, decide_eq_true_eq] at h2
    obtain ⟨t, e1, e2⟩ := hd _ h2.1.1
    exact .inr (.inr (.inr (.inl ⟨hk, h2.1.2, t, e1, by rw [← e1]; exact h2.2⟩)))
  · exact .inr (.inr (.inr (.inr ⟨by omega, h2⟩)))
theorem tkF_ck (l : List Nat) : ((tkF l).2.2 = 0 → ckT l.length 0 [] (tkF l).1 = true ∧ l.length ≤ 100000) ∧ ((tkF l).2.2 ≠ 0 → (tkF l).1 = [] ∧ (tkF l).2.1 ≤ l.length) := by
  unfold tkF
  by_cases h1 : 100000 < l.length
  · rw [if_pos h1]; exact ⟨fun h => by simp at h, fun _ => ⟨rfl, Nat.zero_le _⟩⟩
  rw [if_neg h1]
  by_cases h2 : vd l < l.length
  · rw [if_pos h2]; exact ⟨fun h => by simp at h, fun _ => ⟨rfl, Nat.le_of_lt h2⟩⟩
  rw [if_neg h2]
  by_cases h3 : (lxR (l.length + 1) [] 0 l).2.2 = 0
  · rw [if_pos h3]
    refine ⟨fun _ => ⟨?_, by omega⟩, fun h => absurd rfl h⟩
    have := lx_ck (l.length + 1) [] 0 l 0 (lxR (l.length + 1) [] 0 l).1 (lxR (l.length + 1) [] 0 l).2.1 Wo.nil (Nat.le_refl _) (Prod.ext rfl (Prod.ext rfl h3))
    rwa [Nat.zero_add] at this
  · rw [if_neg h3]
    refine ⟨fun h => absurd h h3, fun _ => ⟨rfl, ?_⟩⟩
    have := lx_at (l.length + 1) [] 0 l
    rwa [Nat.zero_add] at this
/-- is the text longer than the laws look at? -/
def gre (n : Nat) : Bool := decide (3000 < n) && decide (n ≤ 100000)
end Go.Proofs.YtpgiljibicigeaaGreatDoor

/- syntax: how long the tokens' texts are. -/
namespace Go.Proofs.YtpgiljibicigeaaGreatDoor.LX
open Go.RowKit UM QM

theorem sgnR_l15 (r : List Nat) : (sgnR r).length ≤ r.length := by
  by_cases h : sgnR r = []
  · rw [h]; exact Nat.zero_le _
  · exact (pfx_le (fsF_mem h).2).1
theorem tkR_x15 (op : List Nat) (c : Nat) (t : List Nat) : (tkR op (c :: t)).2.2.1.length ≤ (c :: t).length := by
  have h1 := sgnR_l15 (c :: t)
  have h2 : ∀ n, ((c :: t).take n).length ≤ (c :: t).length := fun n => by rw [List.length_take]; exact Nat.min_le_right _ _
  have h3 : ∀ n, (t.take n).length ≤ (c :: t).length := fun n => by rw [List.length_take, List.length_cons]; omega
  simp only [tkR]
  split
  · exact h2 _
  split
  · exact h2 _
  split
  · exact h3 _
  split
  · exact h3 _
  split
  · exact h2 _
  split
  · split <;> exact Nat.zero_le _
  split
  · exact Nat.zero_le _
  split
  · exact Nat.zero_le _
  split
  · simp
  split
  · simp
  · exact h1
theorem pc_sz : ∀ (f : Nat) (r : List Nat), (pcR f r).2.2.length ≤ 8 * (pcR f r).2.1
  | 0, r => by simp [pcR]
  | f + 1, [] => by simp [pcR]
  | f + 1, c :: t => by
    simp only [pcR]
    by_cases h34 : c = 34
    · rw [if_pos h34]; simp
    rw [if_neg h34]
    by_cases h40 : c = 92 ∧ t.head? = some 40
    · rw [if_pos h40]; simp
    rw [if_neg h40]
    by_cases h92 : c = 92
    · rw [if_pos h92]
      have h40' : ((c :: t).drop 1).head? ≠ some 40 := fun h => h40 ⟨h92, h⟩
      have hh : (c :: t).head? = some 92 := by rw [h92]; rfl
      split
      · have ih := pc_sz f ((c :: t).drop (rowR (c :: t)).length)
        have he := row_enc (c :: t) hh h40'
        have hp : 0 < (rowR (c :: t)).length := by
          have := (rdR_row (c :: t) hh h40').2.2.2.2.2.2
          cases hq : rowR (c :: t) with
          | nil => rw [hq] at this; simp at this
          | cons a b => simp
        unfold app
        simp only [List.length_append]
        omega
      · split <;> simp
    · rw [if_neg h92]
      have ih := pc_sz f t
      unfold app
      simp only [List.length_append, List.length_cons, List.length_nil]
      omega
theorem lx_x8 : ∀ (f : Nat) (op : List Nat) (p : Nat) (r : List Nat), ∀ u ∈ (lxR f op p r).1, u.2.1.length ≤ 8 * r.length
  | 0, _, _, _, u, hu => by simp [lxR] at hu
  | f + 1, op, p, r, u, hu => by
    have key : ∀ op p n, u ∈ (lxR f op p (r.drop n)).1 → u.2.1.length ≤ 8 * r.length := fun op p n h => by
      have := lx_x8 f op p (r.drop n) u h
      rw [List.length_drop] at this; omega
    simp only [lxR] at hu
    by_cases h1 : r.drop (skR op r) = []
    · rw [if_pos h1] at hu; simp at hu
    rw [if_neg h1] at hu
    by_cases hi : inn op = 1
    · rw [if_pos hi] at hu
      have hs := pc_sz r.length r
      have hl := (pc_spec r.length r).2.2.1
      generalize pcR r.length r = q at hu hs hl
      have ht : ∀ p, u ∈ txR p q.2.1 q.2.2 → u.2.1.length ≤ 8 * r.length := fun p h => by
        unfold txR at h; split at h
        · rw [List.mem_singleton] at h; subst h; simp only; omega
        · simp at h
      split at hu
      · simp only [LX.pre, List.mem_append, List.mem_singleton] at hu
        rcases hu with (hu | hu) | hu
        · exact ht _ hu
        · subst hu; simp
        · exact key _ _ _ hu
      split at hu
      · simp only [LX.pre, List.mem_append, List.mem_singleton] at hu
        rcases hu with (hu | hu) | hu
        · exact ht _ hu
        · subst hu; simp
        · exact key _ _ _ hu
      split at hu <;> simp at hu
    · rw [if_neg hi] at hu
      obtain ⟨c, t, hct⟩ : ∃ c t, r.drop (skR op r) = c :: t := by
        cases hq : r.drop (skR op r) with
        | nil => exact absurd hq h1
        | cons c t => exact ⟨c, t, rfl⟩
      have hx := tkR_x15 op c t
      have hl : (c :: t).length ≤ r.length := by rw [← hct, List.length_drop]; omega
      rw [hct] at hu
      generalize tkR op (c :: t) = q at hu hx
      split at hu
      · simp only [LX.pre, List.mem_append, List.mem_singleton] at hu
        rcases hu with hu | hu
        · subst hu; have h9 := Nat.le_trans hx hl; simp only; omega
        · exact key _ _ _ hu
      · simp at hu
theorem tk_x8 (l : List Nat) (h0 : (tkF l).2.2 = 0) : ∀ u ∈ (tkF l).1, u.2.1.length ≤ 8 * l.length := by
  unfold tkF at h0 ⊢
  split
  · intro u hu; simp at hu
  split
  · intro u hu; simp at hu
  split
  · exact lx_x8 _ _ _ _
  · intro u hu; simp at hu
theorem ck_all {n : Nat} : ∀ {L : List Tk} {lo : Nat} {st : List Nat}, ckT n lo st L = true → ∀ u ∈ L, u.1 ≤ 11 ∧ u.2.2 < n
  | [], _, _, _, u, hu => by simp at hu
  | (k, x, a) :: L, lo, st, h, u, hu => by
    obtain ⟨h1, h2⟩ := ck_round h
    rcases List.mem_cons.1 hu with rfl | hu
    · exact ⟨h1.2.2.2, h1.2.1⟩
    · rcases h2 with ⟨_, h⟩ | ⟨_, _, _, h⟩ | ⟨_, _, _, h⟩ | ⟨_, _, _, _, h⟩ | ⟨_, h⟩
      all_goals exact ck_all h u hu
theorem tkR_n5 (op r : List Nat) : (tkR op r).1 ≠ 5 := by
  cases r with
  | nil => simp [tkR]
  | cons c t =>
    simp only [tkR]
    repeat' split
    all_goals (show (_ : Nat) ≠ 5; simp)
theorem lx_5 : ∀ (f : Nat) (op : List Nat) (p : Nat) (r : List Nat), (lxR f op p r).2.2 = 5 → (lxR f op p r).2.1 = p + r.length
  | 0, _, _, _, h => by simp [lxR] at h
  | f + 1, op, p, r, h => by
    have hsk := skR_le op r
    simp only [lxR] at h ⊢
    by_cases h1 : r.drop (skR op r) = []
    · rw [if_pos h1]
    rw [if_neg h1] at h ⊢
    have hpre : ∀ l q, (pre l q).2.1 = q.2.1 := fun _ _ => rfl
    have hpr2 : ∀ l q, (pre l q).2.2 = q.2.2 := fun _ _ => rfl
    by_cases hi : inn op = 1
    · rw [if_pos hi] at h ⊢
      have hsp := pc_spec r.length r
      generalize pcR r.length r = q at hsp h ⊢
      by_cases e0 : q.1 = 0
      · rw [if_pos e0] at h ⊢
        rw [hpr2] at h
        have ih := lx_5 f _ _ _ h
        have := hsp.1 e0
        rw [List.length_drop] at ih
        rw [hpre]; omega
      rw [if_neg e0] at h ⊢
      by_cases e1 : q.1 = 1
      · rw [if_pos e1] at h ⊢
        rw [hpr2] at h
        have ih := lx_5 f _ _ _ h
        have := hsp.2.1 e1
        rw [List.length_drop] at ih
        rw [hpre]; omega
      rw [if_neg e1] at h ⊢
      by_cases e5 : q.1 = 5
      · rw [if_pos e5]
      · rw [if_neg e5] at h; simp at h
    · rw [if_neg hi] at h ⊢
      obtain ⟨c, t, hct⟩ : ∃ c t, r.drop (skR op r) = c :: t := by
        cases hq : r.drop (skR op r) with
        | nil => exact absurd hq h1
        | cons c t => exact ⟨c, t, rfl⟩
      have hcl : (c :: t).length = r.length - skR op r := by rw [← hct, List.length_drop]
      have hn5 := tkR_n5 op (c :: t)
      have heff := tk_eff op c t
      rw [hct] at h ⊢
      generalize tkR op (c :: t) = q at heff h hn5 ⊢
      by_cases e0 : q.1 = 0
      · rw [if_pos e0] at h ⊢
        rw [hpr2] at h
        have ih := lx_5 f _ _ _ h
        rw [List.length_drop] at ih
        obtain ⟨_, hn2, _⟩ := heff e0
        rw [hpre]; omega
      · rw [if_neg e0] at h; exact absurd h hn5
theorem tk_5 (l : List Nat) (h : (tkF l).2.2 = 5) : (tkF l).2.1 = l.length := by
  unfold tkF at h ⊢
  split at h
  · simp at h
  rename_i h1
  rw [if_neg h1]
  split at h
  · simp at h
  rename_i h2
  rw [if_neg h2]
  split at h
  · simp at h
  rename_i h3
  rw [if_neg h3]
  have := lx_5 _ _ _ _ h
  simpa using this
end Go.Proofs.YtpgiljibicigeaaGreatDoor.LX

/- syntax: what is read of a text is fit for the parser. -/
namespace Go.Proofs.YtpgiljibicigeaaGreatDoor
open Go.RowKit UM QM LX SX

theorem num_err (s : ByteArray) : (prsA s).err ≠ 5 := by
  unfold prsA
  split
  · decide
  · split
    · split
      · decide
      · unfold LM.tellA; split <;> simp
    · decide
theorem evS_ok (s : ByteArray) (h0 : (tkF (bl s)).2.2 = 0) : EvA (evS s) := by
  obtain ⟨hck, hn⟩ := (tkF_ck (bl s)).1 h0
  have hbl := bl_len s
  have hall := ck_all hck
  have h8 := tk_x8 (bl s) h0
  have key : ∀ t ∈ (evS s).L, t.1 ≤ 11 ∧ t.2.2 < s.size ∧ t.2.1.size ≤ 1000000 := fun t ht => by
    obtain ⟨u, hu, rfl⟩ := List.mem_map.1 ht
    have h1 := hall u hu
    have h2 := h8 u hu
    exact ⟨h1.1, by show u.2.2 < _; omega, by show (tx u.2.1).size ≤ _; rw [tx_size]; omega⟩
  refine ⟨⟨?_, by show s.size ≤ _; omega, fun t ht => ?_⟩, ⟨fun t ht => ?_, fun s => num_err s⟩, rfl, rfl⟩
  · show ((tkF (bl s)).1.map _).length ≤ _
    rw [List.length_map]
    rcases ck_len hck with h | h
    · rw [h]; simp
    · omega
  · have := key t ht
    exact ⟨this.1, by omega, this.2.2⟩
  · exact Nat.le_of_lt (key t ht).2.1
/-- Parse, of any text -/
theorem Parse_all (s : ByteArray) (w : World) (hs : s.size ≤ 140737488351232) (ht : Sh w) (hsg : Sg w) (htb : TBs w) :
    Calls Tryz.prog 9 #[.string s] w (ResPs (parF s) w) := Parse_any s w hs ht hsg htb (evS_ok s)
end Go.Proofs.YtpgiljibicigeaaGreatDoor

/- syntax: right walked. -/
namespace Go.Proofs.YtpgiljibicigeaaGreatDoor
open Go.RowKit UM QM LX SX

end Go.Proofs.YtpgiljibicigeaaGreatDoor

/- syntax: what the statements' head asks. -/
namespace Go.Proofs.YtpgiljibicigeaaGreatDoor
open Go.RowKit UM QM LX SX

def GoY (w W : World) : Prop := Below w.heap.size w W ∧ Sh W ∧ Sg W ∧ TBs W
theorem TBs.be {w W : World} (h : TBs w) (hb : Below w.heap.size w W) : TBs W := TB.get (w := W) (g := w.heap.size) ⟨w, Nat.le_refl _, hb.size, h, hb⟩
theorem GoY.next {w W W' : World} (h : GoY w W) (hb : Below W.heap.size W W') : GoY w W' := ⟨h.1.trans (hb.mono h.1.size), h.2.1.below hb, h.2.2.1.below hb, h.2.2.2.be hb⟩
theorem Parse_two15 {s : ByteArray} {k j : Nat} {t : ByteArray} {x y : Nd} (h : parF s = .ok (.mk k t [x, y]) j) {w0 w : World} (hs : s.size ≤ 140737488351232) (hG : GoY w0 w) :
    Calls Tryz.prog 9 #[.string s] w fun e w' => ∃ q cap, e = .returned (.tuple #[.agg #[.int .i64 (k : Int), .string t, .slice (some ⟨q, 0, none⟩) 2 cap], .int .i64 0, .int .i64 0]) ∧ (w'.cell? ⟨q, 0, none⟩ = some (.int .i64 (knd x : Int)) ∧ w'.cell? ⟨q, 1, none⟩ = some (.string (txN x)) ∧ w'.cell? ⟨q, 3, none⟩ = some (.int .i64 (knd y : Int)) ∧ w'.cell? ⟨q, 4, none⟩ = some (.string (txN y))) ∧ Below w.heap.size w w' := by
  refine (Parse_all s w hs hG.2.1 hG.2.2.1 hG.2.2.2).mono ?_
  intro e w' hr
  rw [h] at hr
  obtain ⟨u, rfl, hn, hb⟩ := hr
  unfold ND at hn
  obtain ⟨ao, cap, rfl, hk⟩ := hn
  unfold NDs at hk
  obtain ⟨⟨q, c0, c1, c2, rfl, _, h0, h1, _, hx⟩, hk⟩ := hk
  unfold NDs at hk
  obtain ⟨⟨q', d0, d1, d2, e2, _, g0, g1, _, hy⟩, _⟩ := hk
  injection e2 with e2
  injection e2 with e2
  subst e2
  obtain ⟨kx, tx', xs⟩ := x
  obtain ⟨ky, ty, ys⟩ := y
  unfold ND at hx hy
  obtain ⟨_, _, ex, _⟩ := hx
  obtain ⟨_, _, ey, _⟩ := hy
  simp only [Value.agg.injEq, Array.mk.injEq, List.cons.injEq, and_true] at ex ey
  obtain ⟨rfl, rfl, _⟩ := ex
  obtain ⟨rfl, rfl, _⟩ := ey
  exact ⟨q, cap, rfl, ⟨h0, h1, g0, g1⟩, hb⟩
theorem Parse_er15 {s : ByteArray} {a er : Nat} (h : parF s = .err a er) {w0 w : World} (hs : s.size ≤ 140737488351232) (hG : GoY w0 w) :
    Calls Tryz.prog 9 #[.string s] w fun e w' => e = .returned (.tuple #[ndZ, .int .i64 (a : Int), .int .i64 (er : Int)]) ∧ Below w.heap.size w w' := by
  refine (Parse_all s w hs hG.2.1 hG.2.2.1 hG.2.2.2).mono ?_
  intro e w' hr
  rw [h] at hr
  exact hr
theorem par1 : parF ⟨#[46, 97, 32, 43, 32, 49]⟩ = .ok (.mk 17 ⟨#[43]⟩ [.mk 10 ⟨#[]⟩ [.mk 1 ⟨#[]⟩ [], .mk 4 ⟨#[]⟩ [.mk 5 ⟨#[97]⟩ []]], .mk 3 ⟨#[49]⟩ []]) 3 := by kernel_rfl
theorem par2 : parF ⟨#[49, 44, 50, 124, 46]⟩ = .ok (.mk 15 ⟨#[]⟩ [.mk 16 ⟨#[]⟩ [.mk 3 ⟨#[49]⟩ [], .mk 3 ⟨#[50]⟩ []], .mk 1 ⟨#[]⟩ []]) 5 := by kernel_rfl
theorem par3 : parF ⟨#[46, 97, 32, 97, 115, 32, 36, 120]⟩ = .err 8 5 := by kernel_rfl
theorem par4 : parF ⟨#[49, 32, 43, 42, 32, 50]⟩ = .err 3 2 := by kernel_rfl
set_option maxRecDepth 100000 in
set_option maxHeartbeats 8000000 in
theorem yshown_any (w : World) (ht : Sh w) (hsg : Sg w) (htb : TBs w) : Calls Tryz.prog 7 #[] w fun r w' => r = .returned (.bool true) ∧ GoY w w' := by
  have G0 : Hid (GoY w w) := Lib.hid ⟨Below.refl _ _, ht, hsg, htb⟩
  clear ht hsg htb
  go_enter Tryz.func7, Tryz.ntmps7
  go_wp2_with fail
  refine (Parse_two15 par1 (by decide) G0.out).mono ?_
  rintro e w1 ⟨q1, cap1, rfl, hc, hb⟩
  have G1 := Lib.hid (G0.out.next hb)
  have HC1 := Lib.hid hc
  clear hb hc G0
  go_wp2_with fail
  obtain ⟨b1, hb1⟩ : ∃ n, w1.heap.size = n := ⟨_, rfl⟩
  obtain ⟨w2, hw2⟩ : ∃ W, w1.alloc (.cells #[.int .i64 17, .string ⟨#[43]⟩, .slice (some ⟨q1, 0, none⟩) 2 cap1] 24) = W := ⟨_, rfl⟩
  have hbe2 : Below w1.heap.size w1 w2 := by rw [← hw2]; exact (Below.refl _ _).alloc (Nat.le_refl _) _
  have K1 : Hid (w2.cell? ⟨b1, 0, none⟩ = some (.int .i64 17) ∧ w2.cell? ⟨b1, 1, none⟩ = some (.string ⟨#[43]⟩) ∧ w2.cell? ⟨b1, 2, none⟩ = some (.slice (some ⟨q1, 0, none⟩) 2 cap1) ∧ w2.cell? ⟨q1, 0, none⟩ = some (.int .i64 10)) := Lib.hid ⟨by rw [← hw2]; exact cell_new hb1.symm, by rw [← hw2]; exact cell_new hb1.symm, by rw [← hw2]; exact cell_new hb1.symm, lxCell hbe2 HC1.out.1⟩
  have G2 := Lib.hid (G1.out.next hbe2)
  rw [hw2, hb1]
  clear hw2 hb1 hbe2 HC1 G1
  refine (Parse_two15 par2 (by decide) G2.out).mono ?_
  rintro e w3 ⟨q2, cap2, rfl, hc, hb⟩
  have G3 := Lib.hid (G2.out.next hb)
  have HC2 := Lib.hid hc
  have HB3 := Lib.hid hb
  clear hb hc G2
  go_wp2_with fail
  obtain ⟨b2, hb2⟩ : ∃ n, w3.heap.size = n := ⟨_, rfl⟩
  obtain ⟨w4, hw4⟩ : ∃ W, w3.alloc (.cells #[.int .i64 15, .string ⟨#[]⟩, .slice (some ⟨q2, 0, none⟩) 2 cap2] 24) = W := ⟨_, rfl⟩
  have hbe4 : Below w3.heap.size w3 w4 := by rw [← hw4]; exact (Below.refl _ _).alloc (Nat.le_refl _) _
  have K2 : Hid (w4.cell? ⟨b2, 0, none⟩ = some (.int .i64 15) ∧ w4.cell? ⟨b2, 2, none⟩ = some (.slice (some ⟨q2, 0, none⟩) 2 cap2) ∧ w4.cell? ⟨q2, 0, none⟩ = some (.int .i64 16)) := Lib.hid ⟨by rw [← hw4]; exact cell_new hb2.symm, by rw [← hw4]; exact cell_new hb2.symm, lxCell hbe4 HC2.out.1⟩
  have G4 := Lib.hid (G3.out.next hbe4)
  have HB4 : Hid (Below w2.heap.size w2 w4) := Lib.hid (HB3.out.trans (hbe4.mono HB3.out.size))
  rw [hw4, hb2]
  clear hw4 hb2 hbe4 HC2 G3 HB3
  refine (Parse_er15 par3 (by decide) G4.out).mono ?_
  rintro e w5 ⟨rfl, hb⟩
  have G5 := Lib.hid (G4.out.next hb)
  have HB5 := Lib.hid hb
  clear hb G4
  go_wp2_with fail
  obtain ⟨w6, hw6⟩ : ∃ W, w5.alloc (.cells #[.int .i64 0, .string ⟨#[]⟩, .slice none 0 0] 24) = W := ⟨_, rfl⟩
  have hbe6 : Below w5.heap.size w5 w6 := by rw [← hw6]; exact (Below.refl _ _).alloc (Nat.le_refl _) _
  have G6 := Lib.hid (G5.out.next hbe6)
  have HB6 : Hid (Below w4.heap.size w4 w6) := Lib.hid (HB5.out.trans (hbe6.mono HB5.out.size))
  rw [hw6]
  clear hw6 hbe6 HB5 G5
  refine (Parse_er15 par4 (by decide) G6.out).mono ?_
  rintro e w7 ⟨rfl, hb⟩
  have G7 := Lib.hid (G6.out.next hb)
  have HB7 := Lib.hid hb
  clear hb G6
  go_upto_region 5 with (fail)
  obtain ⟨w8, hw8⟩ : ∃ W, w7.alloc (.cells #[.int .i64 0, .string ⟨#[]⟩, .slice none 0 0] 24) = W := ⟨_, rfl⟩
  have hbe8 : Below w7.heap.size w7 w8 := by rw [← hw8]; exact (Below.refl _ _).alloc (Nat.le_refl _) _
  have G8 := Lib.hid (G7.out.next hbe8)
  have hB8 : Below w4.heap.size w4 w8 := HB6.out.trans ((HB7.out.mono HB6.out.size).trans (hbe8.mono (Nat.le_trans HB6.out.size HB7.out.size)))
  have hA8 : Below w2.heap.size w2 w8 := HB4.out.trans (hB8.mono HB4.out.size)
  have d0 := lxCell hA8 K1.out.1
  have d1 := lxCell hA8 K1.out.2.1
  have d2 := lxCell hA8 K1.out.2.2.1
  have d3 := lxCell hA8 K1.out.2.2.2
  have e0 := lxCell hB8 K2.out.1
  have e1 := lxCell hB8 K2.out.2.1
  have e2 := lxCell hB8 K2.out.2.2
  rw [hw8]
  clear hw8 hbe8 hB8 hA8 HB6 HB7 HB4 G7 K1 K2
  go_wp2
  go_ret
  exact ⟨rfl, G8.out⟩
end Go.Proofs.YtpgiljibicigeaaGreatDoor
