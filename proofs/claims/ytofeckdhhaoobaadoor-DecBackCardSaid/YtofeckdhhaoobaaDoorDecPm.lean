/- Numbers' texts: the machine of states and the document's cuts tell alike. Nothing of the program. -/
import Derived.Test.YtofeckdhhaoobaaDoorDecPa
namespace Go.Proofs.YtofeckdhhaoobaaDoor
open Go.RowKit LM

/-- the machine, byte by byte -/
def mrun : List UInt8 → RS → Option RS
  | [], q => some q
  | c :: t, q => if nx q.st c.toNat = 0 then none else mrun t (rupd q c.toNat)

theorem nx_high (st : Int) {c : Nat} (h : 128 ≤ c) : nx st c = 0 := by
  unfold nx nd
  repeat' split
  all_goals omega

theorem drop_at (s : ByteArray) (pos : Nat) (h : pos < s.size) : s.data.toList.drop pos = s[pos] :: s.data.toList.drop (pos + 1) := by
  have hk : pos < s.data.toList.length := by simpa using h
  rw [List.drop_eq_getElem_cons hk]; rfl

theorem rrun_eq (s : ByteArray) : ∀ f pos q, s.size ≤ pos + f → rrun s f pos q = mrun (s.data.toList.drop pos) q := by
  intro f
  induction f with
  | zero =>
    intro pos q h
    rw [List.drop_of_length_le (by rw [Array.length_toList]; exact h)]; rfl
  | succ f ih =>
    intro pos q h
    rw [rrun]
    by_cases hp : pos < s.size
    · rw [if_pos hp, drop_at s pos hp, mrun]
      by_cases ha : (s[pos]'hp).toNat < 128
      · rw [decode_ascii s pos hp ha]
        simp only
        by_cases h0 : nx q.st ((s[pos]'hp).toNat : Nat) = 0
        · rw [if_pos h0, if_pos h0]
        · rw [if_neg h0, if_neg h0]; exact ih _ _ (by omega)
      · have hh := decode_high s pos hp (by omega)
        rw [if_pos (nx_high q.st hh.1), if_pos (nx_high q.st (show 128 ≤ (s[pos]'hp).toNat by omega))]
    · rw [if_neg hp, List.drop_of_length_le (by rw [Array.length_toList]; have : s.data.size = s.size := rfl; omega)]; rfl

/-- the digits that a list begins with -/
def dgs (l : List UInt8) : List UInt8 := l.takeWhile isD
def aft (l : List UInt8) : List UInt8 := l.dropWhile isD
theorem dgs_aft (l : List UInt8) : dgs l ++ aft l = l := List.takeWhile_append_dropWhile
theorem dgs_isD (l : List UInt8) : ∀ c ∈ dgs l, isD c = true := fun c hc => by
  have := List.all_takeWhile (p := isD) (l := l)
  exact List.all_eq_true.1 this c hc
theorem aft_head (l : List UInt8) : aft l = [] ∨ ∃ c t, aft l = c :: t ∧ isD c = false := by
  induction l with
  | nil => exact .inl rfl
  | cons c t ih =>
    unfold aft at *
    by_cases h : isD c = true
    · rw [List.dropWhile_cons_of_pos h]; exact ih
    · rw [List.dropWhile_cons_of_neg h]; exact .inr ⟨c, t, rfl, by simpa using h⟩

theorem isD_b {c : UInt8} (h : isD c = true) : 48 ≤ c.toNat ∧ c.toNat ≤ 57 := by simpa [isD] using h
theorem isD_n {c : UInt8} (h : isD c = false) : c.toNat < 48 ∨ 57 < c.toNat := by simp [isD] at h; omega
theorem nx_d4 {c : UInt8} (h : isD c = true) : nx 4 c.toNat = 4 := by
  have := isD_b h
  unfold nx nd
  repeat' split
  all_goals omega
theorem nx_d6 {c : UInt8} (h : isD c = true) : nx 6 c.toNat = 6 := by
  have := isD_b h
  unfold nx nd
  repeat' split
  all_goals omega
theorem nx_d5 {c : UInt8} (h : isD c = true) : nx 5 c.toNat = 6 := by
  have := isD_b h
  unfold nx nd
  repeat' split
  all_goals omega
theorem nx_d9 {c : UInt8} (h : isD c = true) : nx 9 c.toNat = 9 := by
  have := isD_b h
  unfold nx nd
  repeat' split
  all_goals omega
theorem nx_d7 {c : UInt8} (h : isD c = true) : nx 7 c.toNat = 9 := by
  have := isD_b h
  unfold nx nd
  repeat' split
  all_goals omega
theorem nx_d8 {c : UInt8} (h : isD c = true) : nx 8 c.toNat = 9 := by
  have := isD_b h
  unfold nx nd
  repeat' split
  all_goals omega

theorem ofNat_c (c : UInt8) : UInt8.ofNat c.toNat = c := by simp

theorem rupd2 {q : RS} {c : Nat} (h : nx q.st c = 2) : rupd q c = { q with st := 2, neg := true } := by rw [rupd_at q c h]; simp
theorem rupd3 {q : RS} {c : Nat} (h : nx q.st c = 3) : rupd q c = { q with st := 3, ds := q.ds ++ [UInt8.ofNat c] } := by rw [rupd_at q c h]; simp
theorem rupd4 {q : RS} {c : Nat} (h : nx q.st c = 4) : rupd q c = { q with st := 4, ds := q.ds ++ [UInt8.ofNat c] } := by rw [rupd_at q c h]; simp
theorem rupd5 {q : RS} {c : Nat} (h : nx q.st c = 5) : rupd q c = { q with st := 5 } := by rw [rupd_at q c h]; simp
theorem rupd6 {q : RS} {c : Nat} (h : nx q.st c = 6) : rupd q c = { q with st := 6, ds := q.ds ++ [UInt8.ofNat c], beh := q.beh + 1 } := by rw [rupd_at q c h]; simp
theorem rupd7 {q : RS} {c : Nat} (h : nx q.st c = 7) : rupd q c = { q with st := 7 } := by rw [rupd_at q c h]; simp
theorem rupd8 {q : RS} {c : Nat} (h : nx q.st c = 8) : rupd q c = { q with st := 8, down := decide (c = 45) } := by rw [rupd_at q c h]; simp

theorem m4 {W : List UInt8} : ∀ {q : RS} {R : List UInt8}, (∀ c ∈ W, isD c = true) → q.st = 4 → mrun (W ++ R) q = mrun R { q with ds := q.ds ++ W } := by
  induction W with
  | nil => intro q R _ _; simp
  | cons c t ih =>
    intro q R h hs
    obtain ⟨st, ng, ds, bh, dn, pw⟩ := q
    simp only at hs
    subst hs
    have h1 := nx_d4 (h c (by simp))
    rw [List.cons_append, mrun, if_neg (show ¬ nx 4 c.toNat = 0 by rw [h1]; decide), rupd_at _ _ (show nx (RS.mk 4 ng ds bh dn pw).st c.toNat = 4 from h1), ih (fun x hx => h x (by simp [hx])) rfl]
    simp [ofNat_c]

theorem m6 {W : List UInt8} : ∀ {q : RS} {R : List UInt8}, (∀ c ∈ W, isD c = true) → q.st = 6 → mrun (W ++ R) q = mrun R { q with ds := q.ds ++ W, beh := q.beh + W.length } := by
  induction W with
  | nil => intro q R _ _; simp
  | cons c t ih =>
    intro q R h hs
    obtain ⟨st, ng, ds, bh, dn, pw⟩ := q
    simp only at hs
    subst hs
    have h1 := nx_d6 (h c (by simp))
    rw [List.cons_append, mrun, if_neg (show ¬ nx 6 c.toNat = 0 by rw [h1]; decide), rupd_at _ _ (show nx (RS.mk 6 ng ds bh dn pw).st c.toNat = 6 from h1), ih (fun x hx => h x (by simp [hx])) rfl]
    simp [ofNat_c, Nat.add_assoc, Nat.add_comm 1]

def pwf (n : Nat) (W : List UInt8) : Nat := W.foldl (fun n c => min (10 * n + (c.toNat - 48)) 30000) n
theorem m9 {W : List UInt8} : ∀ {q : RS} {R : List UInt8}, (∀ c ∈ W, isD c = true) → q.st = 9 → mrun (W ++ R) q = mrun R { q with pw := pwf q.pw W } := by
  induction W with
  | nil => intro q R _ _; simp [pwf]
  | cons c t ih =>
    intro q R h hs
    obtain ⟨st, ng, ds, bh, dn, pw⟩ := q
    simp only at hs
    subst hs
    have h1 := nx_d9 (h c (by simp))
    rw [List.cons_append, mrun, if_neg (show ¬ nx 9 c.toNat = 0 by rw [h1]; decide), rupd_at _ _ (show nx (RS.mk 9 ng ds bh dn pw).st c.toNat = 9 from h1), ih (fun x hx => h x (by simp [hx])) rfl]
    simp [ofNat_c, pwf]

def frac (l : List UInt8) : Option (List UInt8 × List UInt8) :=
  match l with
  | [] => some ([], [])
  | c :: t => if c.toNat = 46 then (if dgs t = [] then none else some (dgs t, aft t)) else some ([], c :: t)
def sgn (t : List UInt8) : Bool × List UInt8 :=
  match t with
  | [] => (false, [])
  | x :: r => if x.toNat = 43 ∨ x.toNat = 45 then (decide (x.toNat = 45), r) else (false, x :: r)
def expn (l : List UInt8) : Option (Bool × List UInt8 × List UInt8) :=
  match l with
  | [] => some (false, [], [])
  | c :: t => if c.toNat = 101 ∨ c.toNat = 69 then (if dgs (sgn t).2 = [] then none else some ((sgn t).1, dgs (sgn t).2, aft (sgn t).2)) else some (false, [], c :: t)
structure Lit where
  neg : Bool
  W : List UInt8
  B : List UInt8
  down : Bool
  P : List UInt8
def minus (l : List UInt8) : Bool := match l with | [] => false | c :: _ => decide (c.toNat = 45)
def unsig (l : List UInt8) : List UInt8 := match l with | [] => [] | c :: t => if c.toNat = 45 then t else c :: t
def badW (W : List UInt8) : Bool := match W with | [] => true | c :: t => decide (c.toNat = 48 ∧ t ≠ [])
def cutZ (l : List UInt8) : Option Lit :=
  if badW (dgs (unsig l)) = true then none else
  match frac (aft (unsig l)) with
  | none => none
  | some (B, l3) => match expn l3 with
    | none => none
    | some (d, P, l4) => if l4 = [] then some ⟨minus l, dgs (unsig l), B, d, P⟩ else none

def fin (o : Option RS) : Option RS := match o with | none => none | some q => if endOk q = true then some q else none
def noDig (l : List UInt8) : Prop := l = [] ∨ ∃ c t, l = c :: t ∧ isD c = false
theorem dgs_no {l : List UInt8} (h : noDig l) : dgs l = [] := by
  rcases h with rfl | ⟨c, t, rfl, hc⟩
  · rfl
  · unfold dgs; rw [List.takeWhile_cons_of_neg (by rw [hc]; decide)]
theorem noDig_of {l : List UInt8} (h : dgs l = []) : noDig l := by
  have h1 := aft_head l
  have h2 := dgs_aft l
  rw [h, List.nil_append] at h2
  rw [h2] at h1; exact h1
theorem nx_stop {c : UInt8} (h : isD c = false) : nx 9 c.toNat = 0 := by
  have := isD_n h
  unfold nx nd
  repeat' split
  all_goals omega

theorem e9 {q : RS} {W R : List UInt8} (hW : ∀ c ∈ W, isD c = true) (hne : W ≠ []) (hR : noDig R) (hs : q.st = 7 ∨ q.st = 8) :
    fin (mrun (W ++ R) q) = if R = [] then some { q with st := 9, pw := pwf q.pw W } else none := by
  cases W with
  | nil => exact absurd rfl hne
  | cons c t =>
    have h1 : nx q.st c.toNat = 9 := by rcases hs with h | h <;> rw [h]; exact nx_d7 (hW c (by simp)); exact nx_d8 (hW c (by simp))
    rw [List.cons_append, mrun, if_neg (by rw [h1]; decide), rupd_at q _ h1, m9 (fun x hx => hW x (by simp [hx])) rfl]
    rcases hR with rfl | ⟨x, r, rfl, hx⟩
    · rw [if_pos rfl, mrun]; simp [fin, endOk, pwf]
    · rw [if_neg (by simp), mrun, if_pos (nx_stop hx)]; rfl

theorem eN {q : RS} {R : List UInt8} (hn : dgs R = []) (hs : q.st = 7 ∧ (sgn R).2 = R ∨ q.st = 8) : fin (mrun R q) = none := by
  rcases noDig_of hn with rfl | ⟨c, t, rfl, hc⟩
  · rcases hs with ⟨h, _⟩ | h <;> · rw [mrun]; simp [fin, endOk, h]
  · have hc' := isD_n hc
    have h0 : nx q.st c.toNat = 0 := by
      rcases hs with ⟨h, h2⟩ | h
      · rw [h]
        have hx : ¬ (c.toNat = 43 ∨ c.toNat = 45) := by
          intro hh
          unfold sgn at h2
          simp only [if_pos hh] at h2
          have := congrArg List.length h2
          simp at this
        unfold nx nd
        repeat' split
        all_goals omega
      · rw [h]
        unfold nx nd
        repeat' split
        all_goals omega
    rw [mrun, if_pos h0]; rfl

def expR (q : RS) (R : List UInt8) : Option RS := match expn R with
  | none => none
  | some (d, P, l4) => if l4 = [] then some { q with st := (if P = [] then q.st else 9), down := d, pw := pwf 0 P } else none

theorem mexp {q : RS} {R : List UInt8} (hR : noDig R) (hs : q.st = 3 ∨ q.st = 4 ∨ q.st = 6) (hdot : ∀ c t, R = c :: t → c.toNat = 46 → q.st = 6) (hd : q.down = false) (hp : q.pw = 0) :
    fin (mrun R q) = expR q R := by
  obtain ⟨st, ng, ds, bh, dn, pw⟩ := q
  simp only at hs hd hp hdot
  subst hd hp
  rcases hR with rfl | ⟨c, t, rfl, hc⟩
  · have h3 : endOk ⟨st, ng, ds, bh, false, 0⟩ = true := by simp only [endOk]; exact decide_eq_true (by omega)
    simp only [mrun, fin, if_pos h3, expR, expn, if_pos, pwf, List.foldl_nil]
  · have hc' := isD_n hc
    have hdot' := hdot c t rfl
    by_cases he : c.toNat = 101 ∨ c.toNat = 69
    · have h7 : nx st c.toNat = 7 := by
        unfold nx nd
        repeat' split
        all_goals omega
      rw [mrun, if_neg (by simp only [h7]; decide), rupd7 (show nx (RS.mk st ng ds bh false 0).st c.toNat = 7 from h7)]
      unfold expR expn
      simp only [if_pos he]
      cases t with
      | nil => simp [mrun, fin, endOk, sgn, dgs]
      | cons x r =>
        by_cases hx : x.toNat = 43 ∨ x.toNat = 45
        · have h8 : nx 7 x.toNat = 8 := by
            unfold nx nd
            repeat' split
            all_goals omega
          have e : sgn (x :: r) = (decide (x.toNat = 45), r) := by unfold sgn; simp only [if_pos hx]
          rw [e, mrun, if_neg (by simp only [h8]; decide)]
          rw [rupd8 (show nx (RS.mk 7 ng ds bh false 0).st x.toNat = 8 from h8)]
          by_cases hP : dgs r = []
          · rw [if_pos hP, eN hP (.inr rfl)]
          · rw [if_neg hP]
            have h9 := fun q hq => e9 (q := q) (dgs_isD r) hP (aft_head r) hq
            simp only [dgs_aft] at h9
            rw [h9 _ (.inr rfl)]
            by_cases hz : aft r = []
            · simp only [if_pos hz, if_neg hP]
            · simp only [if_neg hz]
        · have e : sgn (x :: r) = (false, x :: r) := by unfold sgn; simp only [if_neg hx]
          rw [e]
          by_cases hP : dgs (x :: r) = []
          · rw [if_pos hP, eN hP (.inl ⟨rfl, by rw [e]⟩)]
          · rw [if_neg hP]
            have h9 := fun q hq => e9 (q := q) (dgs_isD (x :: r)) hP (aft_head (x :: r)) hq
            simp only [dgs_aft] at h9
            rw [h9 _ (.inl rfl)]
            by_cases hz : aft (x :: r) = []
            · simp only [if_pos hz, if_neg hP]
            · simp only [if_neg hz]
    · have h0 : nx st c.toNat = 0 := by
        unfold nx nd
        repeat' split
        all_goals omega
      rw [mrun, if_pos (by exact h0)]
      unfold expR expn
      simp only [if_neg he]
      rfl

def fracR (q : RS) (R : List UInt8) : Option RS := match frac R with
  | none => none
  | some (B, l3) => expR { q with st := (if B = [] then q.st else 6), ds := q.ds ++ B, beh := q.beh + B.length } l3

theorem dgs_cons {c : UInt8} {t : List UInt8} (h : isD c = true) : dgs (c :: t) = c :: dgs t ∧ aft (c :: t) = aft t := by
  unfold dgs aft
  rw [List.takeWhile_cons_of_pos h, List.dropWhile_cons_of_pos h]; exact ⟨rfl, rfl⟩

theorem mfrac {q : RS} {R : List UInt8} (hR : noDig R) (hs : q.st = 3 ∨ q.st = 4) (hd : q.down = false) (hp : q.pw = 0) : fin (mrun R q) = fracR q R := by
  obtain ⟨st, ng, ds, bh, dn, pw⟩ := q
  simp only at hs hd hp
  subst hd hp
  have keep : ∀ R, noDig R → (∀ c t, R = c :: t → c.toNat ≠ 46) → frac R = some ([], R) → fin (mrun R ⟨st, ng, ds, bh, false, 0⟩) = fracR ⟨st, ng, ds, bh, false, 0⟩ R := by
    intro R hR hne hf
    unfold fracR
    rw [hf, mexp hR (by simp only; omega) (fun c t e h => absurd h (hne c t e)) rfl rfl]
    simp
  rcases hR with rfl | ⟨c, t, rfl, hc⟩
  · exact keep [] (.inl rfl) (fun c t h => by cases h) rfl
  · by_cases h46 : c.toNat = 46
    · have h5 : nx st c.toNat = 5 := by
        unfold nx nd
        repeat' split
        all_goals omega
      rw [mrun, if_neg (by simp only [h5]; decide), rupd5 (show nx (RS.mk st ng ds bh false 0).st c.toNat = 5 from h5)]
      by_cases hB : dgs t = []
      · have hf : frac (c :: t) = none := by unfold frac; simp only [if_pos h46, if_pos hB]
        unfold fracR
        rw [hf]
        rcases noDig_of hB with rfl | ⟨x, r, rfl, hx⟩
        · simp [mrun, fin, endOk]
        · have hx' := isD_n hx
          have h0 : nx 5 x.toNat = 0 := by
            unfold nx nd
            repeat' split
            all_goals omega
          rw [mrun, if_pos h0]; rfl
      · have hf : frac (c :: t) = some (dgs t, aft t) := by unfold frac; simp only [if_pos h46, if_neg hB]
        unfold fracR
        rw [hf]
        simp only [if_neg hB]
        cases t with
        | nil => exact absurd rfl hB
        | cons x r =>
          have hx : isD x = true := by
            by_cases hx : isD x = true
            · exact hx
            · exact absurd (dgs_no (.inr ⟨x, r, rfl, by simpa using hx⟩)) hB
          have h6 := nx_d5 hx
          obtain ⟨e1, e2⟩ := dgs_cons (t := r) hx
          have hm := fun q hq => m6 (W := dgs r) (q := q) (R := aft r) (dgs_isD r) hq
          simp only [dgs_aft] at hm
          rw [mrun, if_neg (by simp only [h6]; decide), rupd6 (show nx (RS.mk 5 ng ds bh false 0).st x.toNat = 6 from h6), hm _ rfl, e1, e2]
          rw [mexp (aft_head r) (.inr (.inr rfl)) (fun _ _ _ _ => rfl) (by simp) (by simp)]
          congr 1
          simp [ofNat_c]; omega
    · exact keep (c :: t) (.inr ⟨c, t, rfl, hc⟩) (fun c' t' h => by cases h; exact h46) (by unfold frac; simp only [if_neg h46])

def wholR (q : RS) (l : List UInt8) : Option RS :=
  if badW (dgs l) = true then none else fracR { q with st := (if (dgs l).head? = some 48 then 3 else 4), ds := q.ds ++ dgs l } (aft l)

theorem u48 {c : UInt8} : c.toNat = 48 ↔ c = 48 := by
  constructor
  · intro h; exact UInt8.toNat_inj.1 (by rw [h]; rfl)
  · intro h; rw [h]; rfl

theorem mwhol {q : RS} {l : List UInt8} (hs : q.st = 1 ∧ minus l = false ∨ q.st = 2) (hd : q.down = false) (hp : q.pw = 0) : fin (mrun l q) = wholR q l := by
  obtain ⟨st, ng, ds, bh, dn, pw⟩ := q
  simp only at hs hd hp
  subst hd hp
  unfold wholR
  by_cases hW : dgs l = []
  · rw [hW, if_pos (by rfl)]
    rcases noDig_of hW with rfl | ⟨x, r, rfl, hx⟩
    · have : endOk ⟨st, ng, ds, bh, false, 0⟩ = false := by simp only [endOk]; exact decide_eq_false (by omega)
      simp [mrun, fin, this]
    · have hx' := isD_n hx
      have h0 : nx st x.toNat = 0 := by
        have hm : st = 1 → x.toNat ≠ 45 := by
          intro h1
          rcases hs with ⟨_, h⟩ | h
          · simpa [minus] using h
          · omega
        unfold nx nd
        repeat' split
        all_goals omega
      rw [mrun, if_pos h0]; rfl
  · cases l with
    | nil => exact absurd rfl hW
    | cons x r =>
      have hx : isD x = true := by
        by_cases hx : isD x = true
        · exact hx
        · exact absurd (dgs_no (.inr ⟨x, r, rfl, by simpa using hx⟩)) hW
      obtain ⟨e1, e2⟩ := dgs_cons (t := r) hx
      rw [e1, e2]
      by_cases h48 : x.toNat = 48
      · have h3 : nx st x.toNat = 3 := by
          unfold nx nd
          repeat' split
          all_goals omega
        rw [mrun, if_neg (by simp only [h3]; decide), rupd3 (show nx (RS.mk st ng ds bh false 0).st x.toNat = 3 from h3)]
        by_cases hr : dgs r = []
        · have hb : badW (x :: dgs r) = false := by simp [badW, hr]
          have ha : aft r = r := by have := dgs_aft r; rw [hr, List.nil_append] at this; exact this
          rw [hb, if_neg (by decide), hr, ha, mfrac (noDig_of hr) (.inl rfl) rfl rfl]
          rw [List.head?_cons, if_pos (by rw [u48.1 h48])]
          simp only [ofNat_c]
        · have hb : badW (x :: dgs r) = true := by simp [badW, h48, hr]
          rw [hb, if_pos rfl]
          cases r with
          | nil => exact absurd rfl hr
          | cons y z =>
            have hy : isD y = true := by
              by_cases hy : isD y = true
              · exact hy
              · exact absurd (dgs_no (.inr ⟨y, z, rfl, by simpa using hy⟩)) hr
            have hy' := isD_b hy
            have h0 : nx 3 y.toNat = 0 := by
              unfold nx nd
              repeat' split
              all_goals omega
            rw [mrun, if_pos h0]; rfl
      · have hx' := isD_b hx
        have h4 : nx st x.toNat = 4 := by
          unfold nx nd
          repeat' split
          all_goals omega
        have hb : badW (x :: dgs r) = false := by simp [badW, h48]
        have hm := fun q hq => m4 (W := dgs r) (q := q) (R := aft r) (dgs_isD r) hq
        simp only [dgs_aft] at hm
        rw [hb, if_neg (by decide), mrun, if_neg (by simp only [h4]; decide), rupd4 (show nx (RS.mk st ng ds bh false 0).st x.toNat = 4 from h4), hm _ rfl]
        rw [mfrac (aft_head r) (.inr rfl) (by simp) (by simp), List.head?_cons, if_neg (show ¬ (some x = some 48) from fun h => h48 (u48.2 (Option.some.inj h)))]
        congr 1
        simp [ofNat_c]

theorem mall (l : List UInt8) : fin (mrun l rs0) = wholR { rs0 with st := (if minus l = true then 2 else 1), neg := minus l } (unsig l) := by
  cases l with
  | nil => rw [mwhol (.inl ⟨rfl, rfl⟩) rfl rfl]; rfl
  | cons c t =>
    by_cases h : c.toNat = 45
    · have h2 : nx 1 c.toNat = 2 := by
        unfold nx nd
        repeat' split
        all_goals omega
      have hm : minus (c :: t) = true := by simp [minus, h]
      have hu : unsig (c :: t) = t := by simp [unsig, h]
      rw [hm, hu, mrun, if_neg (by show ¬ nx 1 c.toNat = 0; rw [h2]; decide), rupd2 (show nx rs0.st c.toNat = 2 from h2), mwhol (.inr rfl) (by simp [rs0]) (by simp [rs0])]
      simp [rs0]
    · have hm : minus (c :: t) = false := by simp [minus, h]
      have hu : unsig (c :: t) = c :: t := by simp [unsig, h]
      rw [hm, hu, mwhol (.inl ⟨rfl, hm⟩) rfl rfl]; simp [rs0]

/-- what the document's parts say -/
def litA (n : Nat) (x : Option Lit) : Ans := match x with
  | none => ⟨2, zP⟩
  | some t => if 1000 < n then ⟨3, zP⟩ else tellA t.neg (dv (t.W ++ t.B)) ((if t.down then -((min (dv t.P) 100000 : Nat) : Int) else ((min (dv t.P) 100000 : Nat) : Int)) - t.B.length)

theorem pwf_min (W : List UInt8) : ∀ n m, n = min m 30000 → pwf n W = min (W.foldl (fun n c => 10 * n + (c.toNat - 48)) m) 30000 := by
  induction W with
  | nil => intro n m h; simpa [pwf] using h
  | cons c t ih =>
    intro n m h
    have := ih (min (10 * n + (c.toNat - 48)) 30000) (10 * m + (c.toNat - 48)) (by omega)
    simpa [pwf] using this
theorem pwf_dv (W : List UInt8) : pwf 0 W = min (dv W) 30000 := pwf_min W 0 0 rfl

/-- powers that are far tell alike -/
theorem tell_far {s : Bool} {v : Nat} {e1 e2 : Int} (hv : (dg 10 v).length ≤ 1000) (h : e1 = e2 ∨ (20000 ≤ e1 ∧ 20000 ≤ e2) ∨ (e1 ≤ -20000 ∧ e2 ≤ -20000)) : tellA s v e1 = tellA s v e2 := by
  rcases h with rfl | h
  · rfl
  · unfold tellA
    rcases Nat.eq_zero_or_pos v with h0 | h0
    · subst h0; rfl
    · have hp : ∀ e, pl s v e = ⟨s, core v, e + tz v⟩ := fun e => by unfold pl; rw [if_neg (by omega)]
      have htz : tz v < (dg 10 v).length := by
        rcases Nat.lt_or_ge (tz v) (dg 10 v).length with h1 | h1
        · exact h1
        · exact absurd (tz_lt h0 (dg_upper (b := 10) (by omega) v)) (by omega)
      have hc : dl (core v) ≤ 1000 := Nat.le_trans (dg_len_le (by omega) (core_le v)) hv
      have hc0 : 0 < dl (core v) := by have := core_pos h0; unfold dl; rw [dg_pos (by omega) this]; simp
      have hb : ∀ e : Int, 20000 ≤ e ∨ e ≤ -20000 → inR (pl s v e) = false := fun e he => by
        rw [hp]; unfold inR
        exact decide_eq_false (by simp only; omega)
      rw [hb e1 (by omega), hb e2 (by omega)]; simp

theorem prs_lit (s : ByteArray) : prsA s = litA s.size (cutZ s.data.toList) := by
  have h1 : prsA s = match fin (rrun s s.size 0 rs0) with | none => ⟨2, zP⟩ | some q => if 1000 < s.size then ⟨3, zP⟩ else tellA q.neg (dv q.ds) (expo q) := by
    unfold prsA fin
    rcases rrun s s.size 0 rs0 with _ | q
    · rfl
    · by_cases h : endOk q = true
      · simp only [if_pos h]
      · simp only [if_neg h]
  rw [h1, rrun_eq s s.size 0 rs0 (by omega), List.drop_zero, mall]
  have hln : s.data.toList.length = s.size := by rw [Array.length_toList]; rfl
  generalize s.data.toList = l at *
  unfold wholR cutZ
  by_cases hW : badW (dgs (unsig l)) = true
  · rw [if_pos hW, if_pos hW]; rfl
  · rw [if_neg hW, if_neg hW]
    have hu : (unsig l).length ≤ l.length := by
      unfold unsig
      split
      · simp
      · split <;> simp
    have hd1 : (dgs (unsig l)).length + (aft (unsig l)).length = (unsig l).length := by rw [← List.length_append, dgs_aft]
    have hi1 := dgs_isD (unsig l)
    unfold fracR
    generalize dgs (unsig l) = W at *
    generalize aft (unsig l) = R at *
    rcases hfr : frac R with _ | ⟨B, l3⟩
    · rfl
    · have hB : B.length + l3.length ≤ R.length ∧ ∀ c ∈ B, isD c = true := by
        unfold frac at hfr
        split at hfr
        · cases hfr; simp
        · split at hfr
          · split at hfr
            · cases hfr
            · rename_i t _ _
              cases hfr
              have : (dgs t).length + (aft t).length = t.length := by rw [← List.length_append, dgs_aft]
              exact ⟨by simp; omega, dgs_isD t⟩
          · cases hfr; simp
      simp only
      unfold expR
      rcases hex : expn l3 with _ | ⟨d, P, l4⟩
      · rfl
      · by_cases hz : l4 = []
        · simp only [hz, if_true]
          unfold litA
          by_cases hs : 1000 < s.size
          · simp only [if_pos hs]
          · simp only [if_neg hs, rs0, List.nil_append]
            refine tell_far ?_ ?_
            · have := dv_lt (l := W ++ B) (fun c hc => by rcases List.mem_append.1 hc with h | h; exact hi1 c h; exact hB.2 c h)
              have h3 := dg_len_of_lt (b := 10) (by omega) this
              rw [List.length_append] at h3
              omega
            · unfold expo
              simp only [pwf_dv]
              rcases d with _ | _ <;> simp <;> omega
        · simp only [if_neg hz]; rfl
end Go.Proofs.YtofeckdhhaoobaaDoor
