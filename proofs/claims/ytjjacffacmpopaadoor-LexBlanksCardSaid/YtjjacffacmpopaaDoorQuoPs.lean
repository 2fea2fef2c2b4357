/- quote: what was written is read back. -/
import Derived.Test.YtjjacffacmpopaaDoorQuoJ
import Derived.Deep.RegionLaw
namespace Go.Proofs.YtjjacffacmpopaaDoor
open Go.RowKit UM QM

theorem pk_of {l r : List Nat} {k c : Nat} (h : l.drop k = c :: r) : pk l k = (c : Nat) := by
  have hk : k < l.length := by
    rcases Nat.lt_or_ge k l.length with h' | h'
    · exact h'
    · rw [List.drop_of_length_le h'] at h; cases h
  unfold pk
  rw [if_pos hk]
  have e := List.drop_eq_getElem_cons hk
  rw [h] at e
  have e1 := (List.cons.inj e).1
  simp [hk, e1]
theorem drop_next {l r : List Nat} {k c : Nat} (h : l.drop k = c :: r) : l.drop (k + 1) = r := by
  rw [← List.drop_drop, h]; rfl
theorem dgv_hxd (d : Nat) (h : d < 16) : dgv ((hxd d : Nat) : Int) = some d := by
  have : ∀ k : _root_.Fin 16, dgv ((hxd k.val : Nat) : Int) = some k.val := by decide
  exact this ⟨d, h⟩
theorem unitF_step {l r : List Nat} {n k h d : Nat} (hd : d < 16) (e : l.drop k = hxd d :: r) : unitF l (n + 1) k h = unitF l n (k + 1) (h * 16 + d) := by
  simp only [unitF]
  rw [pk_of e, dgv_hxd d hd]
theorem un_hx {l r : List Nat} {k u : Nat} (hu : u < 65536) (e : l.drop k = hx4 u ++ r) : un l k = (((u : Nat) : Int), true, k + 4) := by
  unfold hx4 at e
  simp only [List.cons_append, List.nil_append] at e
  unfold un
  rw [unitF_step (Nat.mod_lt _ (by decide)) e]
  have e1 := drop_next e
  rw [unitF_step (Nat.mod_lt _ (by decide)) e1]
  have e2 := drop_next e1
  rw [unitF_step (Nat.mod_lt _ (by decide)) e2]
  have e3 := drop_next e2
  rw [unitF_step (Nat.mod_lt _ (by decide)) e3]
  simp only [unitF]
  have : (((0 * 16 + u / 4096 % 16) * 16 + u / 256 % 16) * 16 + u / 16 % 16) * 16 + u % 16 = u := by omega
  rw [this]
theorem drop_two {l r : List Nat} {k a b : Nat} (e : l.drop k = a :: b :: r) : l.drop (k + 2) = r := drop_next (drop_next e)
theorem esc_uni {l r : List Nat} {k u : Nat} (e : l.drop k = uni u ++ r) : pk l k = 92 ∧ escF l (k + 1) = codedF l (k + 2) ∧ l.drop (k + 2) = hx4 u ++ r := by
  unfold uni at e
  rw [List.append_assoc] at e
  have e0 : l.drop k = 92 :: 117 :: (hx4 u ++ r) := e
  refine ⟨pk_of e0, ?_, drop_two e0⟩
  have h := pk_of (drop_next e0)
  unfold escF
  rw [h]
  rfl
theorem piece_esc {l : List Nat} {k : Nat} (h : pk l k = 92) : pieceF l k = escF l (k + 1) := by
  unfold pieceF
  rw [h]
  rfl
theorem drop_add {l m r : List Nat} {k : Nat} (e : l.drop k = m ++ r) : l.drop (k + m.length) = r := by
  rw [← List.drop_drop, e]; simp
theorem coded_one {l r : List Nat} {k u : Nat} (hu : u < 65536) (hp : Pt u) (e : l.drop k = hx4 u ++ r) : codedF l k = (((u : Nat) : Int), true, k + 4) := by
  unfold codedF
  rw [un_hx hu e]
  obtain ⟨_, h2⟩ := hp
  rw [if_neg (by simp), if_pos (by simp only; omega)]
theorem low_hx {l r : List Nat} {k u : Nat} (hu : u < 65536) (h1 : 56320 ≤ u) (h2 : u ≤ 57343) (e : l.drop k = uni u ++ r) : lowF l k = (((u : Nat) : Int), true, k + 6) := by
  unfold uni at e
  rw [List.append_assoc] at e
  have e0 : l.drop k = 92 :: 117 :: (hx4 u ++ r) := e
  unfold lowF
  rw [pk_of e0, pk_of (drop_next e0), if_neg (by decide), if_neg (by decide), un_hx hu (drop_two e0)]
  have a1 : decide ((56320 : Int) ≤ ((u : Nat) : Int)) = true := by simp; omega
  have a2 : decide (((u : Nat) : Int) ≤ 57343) = true := by simp; omega
  simp only [a1, a2]
  rfl
theorem coded_two {l r : List Nat} {k q : Nat} (hq : q ≤ 1048575) (e : l.drop k = hx4 (55296 + q / 1024) ++ (uni (56320 + q % 1024) ++ r)) : codedF l k = (((65536 + q : Nat) : Int), true, k + 10) := by
  have h4 : (hx4 (55296 + q / 1024)).length = 4 := rfl
  have e2 := drop_add e
  rw [h4] at e2
  unfold codedF
  rw [un_hx (by omega) e]
  simp only
  rw [if_neg (by simp), if_neg (by omega), if_neg (by omega), low_hx (by omega) (by omega) (by omega) e2]
  simp only
  rw [if_pos trivial]
  refine Prod.ext ?_ rfl
  simp only
  omega
/-- a piece that was written is read as its code point -/
theorem piece_back {asc : Bool} {l r : List Nat} {k p : Nat} (hp : Pt p) (e : l.drop k = pieceW asc p ++ r) : pk l k ≠ 34 ∧ pieceF l k = (((p : Nat) : Int), true, k + (pieceW asc p).length) := by
  unfold pieceW at e ⊢
  by_cases c1 : letF p ≠ 0
  · rw [if_pos c1] at e ⊢
    have e0 : l.drop k = 92 :: letF p :: r := e
    have h1 := pk_of e0
    have h2 := pk_of (drop_next e0)
    refine ⟨by rw [h1]; decide, ?_⟩
    rw [piece_esc h1]
    unfold escF
    rw [h2]
    unfold letF at c1 ⊢
    by_cases d1 : p = 34
    · subst d1; rfl
    by_cases d2 : p = 92
    · subst d2; rfl
    by_cases d3 : p = 8
    · subst d3; rfl
    by_cases d4 : p = 9
    · subst d4; rfl
    by_cases d5 : p = 10
    · subst d5; rfl
    by_cases d6 : p = 12
    · subst d6; rfl
    by_cases d7 : p = 13
    · subst d7; rfl
    rw [if_neg d1, if_neg d2, if_neg d3, if_neg d4, if_neg d5, if_neg d6, if_neg d7] at c1
    exact absurd rfl c1
  rw [if_neg c1] at e ⊢
  have c1' : p ≠ 34 ∧ p ≠ 92 := by
    have c0 := Decidable.not_not.1 c1
    constructor
    · intro h; rw [h] at c0; cases c0
    · intro h; rw [h] at c0; cases c0
  have one : ∀ (hu : p < 65536), l.drop k = uni p ++ r → pk l k ≠ 34 ∧ pieceF l k = (((p : Nat) : Int), true, k + (uni p).length) := by
    intro hu e
    obtain ⟨h1, h2, h3⟩ := esc_uni e
    refine ⟨by rw [h1]; decide, ?_⟩
    rw [piece_esc h1, h2, coded_one hu hp h3]
    rfl
  by_cases c2 : p < 32 ∨ p = 127
  · rw [if_pos c2] at e ⊢
    exact one (by omega) e
  rw [if_neg c2] at e ⊢
  by_cases c3 : p ≤ 127 ∨ asc = false
  · rw [if_pos c3] at e ⊢
    by_cases c5 : p < 128
    · rw [enc1 c5] at e ⊢
      have h1 := pk_of (show l.drop k = p :: r from e)
      refine ⟨by rw [h1]; omega, ?_⟩
      unfold pieceF
      rw [h1, if_neg (by omega), if_neg (by omega), if_neg (by omega)]
      rfl
    · have hh : ∃ c t, enc p = c :: t ∧ 128 ≤ c := by
        unfold enc
        rw [if_neg c5]
        split
        · exact ⟨_, _, rfl, by omega⟩
        · split
          · exact ⟨_, _, rfl, by omega⟩
          · exact ⟨_, _, rfl, by omega⟩
      obtain ⟨c, t, hc, hc2⟩ := hh
      have h1 : pk l k = (c : Nat) := pk_of (r := t ++ r) (by rw [e, hc]; rfl)
      refine ⟨by rw [h1]; omega, ?_⟩
      unfold pieceF
      rw [h1, if_neg (by omega), if_pos (by omega)]
      have ht : (l.drop k).take 4 = enc p ++ r.take (4 - (enc p).length) := by
        rw [e, List.take_append, List.take_of_length_le (by rw [enc_len]; exact (en_pos p).2)]
      unfold pointF
      rw [ht, dcd_enc hp, if_pos rfl, enc_len]
  rw [if_neg c3] at e ⊢
  by_cases c4 : p ≤ 65535
  · rw [if_pos c4] at e ⊢
    exact one (by omega) e
  rw [if_neg c4] at e ⊢
  obtain ⟨q, hq⟩ : ∃ q, q = p - 65536 := ⟨_, rfl⟩
  rw [← hq] at e ⊢
  have hpq : p = 65536 + q := by omega
  have hq3 : q ≤ 1048575 := by have := hp.1; omega
  rw [List.append_assoc] at e
  obtain ⟨h1, h2, h3⟩ := esc_uni e
  refine ⟨by rw [h1]; decide, ?_⟩
  rw [piece_esc h1, h2, coded_two hq3 h3, hpq]
  rfl
theorem tl_back {asc : Bool} {m : List Nat} : ∀ {ps l : List Nat} {k : Nat}, (∀ p ∈ ps, Pt p) → l.drop k = ps.flatMap (pieceW asc) ++ (34 :: m) → Tl l k (toI ps) (k + (ps.flatMap (pieceW asc)).length + 1) 0
  | [], l, k, _, e => Tl.stop (pk_of e)
  | p :: ps, l, k, hp, e => by
    rw [List.flatMap_cons, List.append_assoc] at e
    obtain ⟨h1, h2⟩ := piece_back (hp p (List.mem_cons_self ..)) e
    have t := tl_back (fun q hq => hp q (List.mem_cons_of_mem _ hq)) (drop_add e)
    have := Tl.go' h1 h2 t
    rw [List.flatMap_cons, List.length_append]
    rw [Nat.add_assoc k] at this
    exact this
/-- what was written is read back -/
theorem read_back (asc : Bool) {ps : List Nat} (hp : ∀ p ∈ ps, Pt p) (m : List Nat) : RdR (wrt asc ps ++ m) (toI ps) (wrt asc ps).length 0 := by
  have e : wrt asc ps ++ m = 34 :: (ps.flatMap (pieceW asc) ++ (34 :: m)) := by unfold wrt; simp
  have t := tl_back (asc := asc) (m := m) hp (show (wrt asc ps ++ m).drop 1 = ps.flatMap (pieceW asc) ++ (34 :: m) by rw [e]; rfl)
  refine .inr ⟨by rw [e]; rfl, ?_⟩
  have hl : (wrt asc ps).length = 1 + (ps.flatMap (pieceW asc)).length + 1 := by unfold wrt; simp; omega
  rw [hl]; exact t
end Go.Proofs.YtjjacffacmpopaaDoor

/- quote: Plain walked. -/
namespace Go.Proofs.YtjjacffacmpopaaDoor
open Go.RowKit UM QM

end Go.Proofs.YtjjacffacmpopaaDoor
