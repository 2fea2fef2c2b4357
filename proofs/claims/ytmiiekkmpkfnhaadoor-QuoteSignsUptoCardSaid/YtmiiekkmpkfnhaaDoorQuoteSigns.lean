/- Walk of the law QuoteSigns. -/
import Derived.Test.YtmiiekkmpkfnhaaDoorQuoL
import Derived.Lib.IndexBytes
namespace Go.Proofs.YtmiiekkmpkfnhaaDoor
open Go.RowKit UM QM

/-- no byte that is not plain but behind a backslash -/
def good (a : Bool) : List Nat → Bool
  | [] => true
  | [c] => decide (c ≠ 92) && (decide (32 ≤ c) && decide (c ≠ 34) && decide (c ≠ 127) && (!a || decide (c ≤ 127)))
  | c :: x :: t => if c = 92 then good a t else (decide (32 ≤ c) && decide (c ≠ 34) && decide (c ≠ 127) && (!a || decide (c ≤ 127))) && good a (x :: t)
theorem good_plain {a : Bool} {c : Nat} (h1 : 32 ≤ c) (h2 : c ≠ 34) (h3 : c ≠ 127) (h4 : a = true → c ≤ 127) (h5 : c ≠ 92) (t : List Nat) : good a (c :: t) = good a t := by
  have h6 : (!a || decide (c ≤ 127)) = true := by
    cases a with
    | false => rfl
    | true => simpa using h4 rfl
  cases t with
  | nil => simp only [good]; rw [h6]; simp [h1, h2, h3, h5]
  | cons x t => simp only [good]; rw [if_neg h5, h6]; simp [h1, h2, h3]
theorem good_esc {a : Bool} (x : Nat) (t : List Nat) : good a (92 :: x :: t) = good a t := by simp [good]
theorem hxd_in (d : Nat) (h : d < 16) : (48 ≤ hxd d ∧ hxd d ≤ 57) ∨ (97 ≤ hxd d ∧ hxd d ≤ 102) := by unfold hxd; split <;> omega
theorem good_hex {a : Bool} (d : Nat) (h : d < 16) (t : List Nat) : good a (hxd d :: t) = good a t := by
  have := hxd_in d h
  exact good_plain (by omega) (by omega) (by omega) (fun _ => by omega) (by omega) t
theorem good_uni {a : Bool} (u : Nat) (t : List Nat) : good a (uni u ++ t) = good a t := by
  show good a (92 :: 117 :: hxd (u / 4096 % 16) :: hxd (u / 256 % 16) :: hxd (u / 16 % 16) :: hxd (u % 16) :: t) = _
  rw [good_esc, good_hex _ (Nat.mod_lt _ (by decide)), good_hex _ (Nat.mod_lt _ (by decide)), good_hex _ (Nat.mod_lt _ (by decide)), good_hex _ (Nat.mod_lt _ (by decide))]
theorem good_high {m : List Nat} (h : ∀ x ∈ m, 128 ≤ x) (t : List Nat) : good false (m ++ t) = good false t := by
  induction m with
  | nil => rfl
  | cons x m ih =>
    have := h x (List.mem_cons_self ..)
    rw [List.cons_append, good_plain (by omega) (by omega) (by omega) (fun e => by cases e) (by omega)]
    exact ih fun y hy => h y (List.mem_cons_of_mem _ hy)
theorem enc_high {p : Nat} (h : ¬ p < 128) : ∀ x ∈ enc p, 128 ≤ x := by
  intro x hx
  unfold enc at hx
  rw [if_neg h] at hx
  repeat' split at hx
  all_goals simp only [List.mem_cons, List.not_mem_nil, or_false] at hx
  all_goals omega
theorem letF_0 {p : Nat} (h : letF p = 0) : p ≠ 34 ∧ p ≠ 92 := by
  constructor
  · intro e; rw [e] at h; cases h
  · intro e; rw [e] at h; cases h
theorem good_piece (asc : Bool) (p : Nat) (t : List Nat) : good asc (pieceW asc p ++ t) = good asc t := by
  unfold pieceW
  by_cases c1 : letF p ≠ 0
  · rw [if_pos c1]; exact good_esc _ _
  rw [if_neg c1]
  have hl := letF_0 (Decidable.not_not.1 c1)
  by_cases c2 : p < 32 ∨ p = 127
  · rw [if_pos c2]; exact good_uni _ _
  rw [if_neg c2]
  by_cases c3 : p ≤ 127 ∨ asc = false
  · rw [if_pos c3]
    by_cases c5 : p < 128
    · rw [enc1 c5]
      exact good_plain (by omega) hl.1 (by omega) (fun _ => by omega) hl.2 t
    · have : asc = false := by rcases c3 with h | h; omega; exact h
      subst this
      exact good_high (enc_high c5) t
  rw [if_neg c3]
  by_cases c4 : p ≤ 65535
  · rw [if_pos c4]; exact good_uni _ _
  · rw [if_neg c4, List.append_assoc, good_uni, good_uni]
theorem good_all (asc : Bool) : ∀ ps : List Nat, good asc (ps.flatMap (pieceW asc)) = true
  | [] => rfl
  | p :: ps => by rw [List.flatMap_cons, good_piece]; exact good_all asc ps
/-- how a good text goes on -/
theorem good_next {a : Bool} {mid : List Nat} {j : Nat} (h : good a (mid.drop j) = true) (hj : j < mid.length) :
    (mid[j]?.getD 0 = 92 ∧ j + 1 < mid.length ∧ good a (mid.drop (j + 2)) = true) ∨ (mid[j]?.getD 0 ≠ 92 ∧ 32 ≤ mid[j]?.getD 0 ∧ mid[j]?.getD 0 ≠ 34 ∧ mid[j]?.getD 0 ≠ 127 ∧ (a = true → mid[j]?.getD 0 ≤ 127) ∧ good a (mid.drop (j + 1)) = true) := by
  have e : mid.drop j = mid[j]?.getD 0 :: mid.drop (j + 1) := by
    rw [List.drop_eq_getElem_cons hj]; simp [hj]
  have e2 : mid.drop (j + 2) = (mid.drop (j + 1)).drop 1 := by rw [List.drop_drop]
  have e3 : (mid.drop (j + 1)).length = mid.length - (j + 1) := List.length_drop ..
  rw [e] at h
  rw [e2]
  generalize mid[j]?.getD 0 = c at *
  generalize mid.drop (j + 1) = t at *
  rcases t with _ | ⟨x, t⟩
  · right
    simp only [good, Bool.and_eq_true, Bool.or_eq_true, Bool.not_eq_true', decide_eq_true_eq] at h
    refine ⟨h.1, h.2.1.1.1, h.2.1.1.2, h.2.1.2, fun ha => ?_, rfl⟩
    rcases h.2.2 with h2 | h2
    · rw [ha] at h2; cases h2
    · exact h2
  · by_cases c92 : c = 92
    · left
      subst c92
      rw [good_esc] at h
      exact ⟨rfl, by simp at e3; omega, h⟩
    · right
      simp only [good] at h
      rw [if_neg c92] at h
      simp only [Bool.and_eq_true, Bool.or_eq_true, Bool.not_eq_true', decide_eq_true_eq] at h
      refine ⟨c92, h.1.1.1.1, h.1.1.1.2, h.1.1.2, fun ha => ?_, h.2⟩
      rcases h.1.2 with h2 | h2
      · rw [ha] at h2; cases h2
      · exact h2
theorem wrt_mid (asc : Bool) {ps : List Nat} (hp : ∀ p ∈ ps, Pt p) {R : ByteArray} (h : R = tx (wrt asc ps)) : ∃ mid, mid.length ≤ 12 * ps.length ∧ good asc mid = true ∧ bl R = 34 :: (mid ++ [34]) := by
  refine ⟨ps.flatMap (pieceW asc), flat_len asc ps, good_all asc ps, ?_⟩
  rw [h, bl_tx]
  · rfl
  · exact L3 (done := ps) (todo := []) (by simp) rfl hp
set_option maxRecDepth 20000 in
set_option maxHeartbeats 4000000 in
theorem signs_walk {s : ByteArray} (w : World) (ht : Sh w) (hs : s.data.toList.length ≤ 1048576) : Calls Tryd.prog 5 #[.string s] w fun r w' => r = .returned (.bool true) ∧ Below w.heap.size w w' := by
  have hz : s.size ≤ 1000000000000 := by
    rw [Array.length_toList] at hs
    exact Nat.le_trans hs (by decide)
  have HQ := Lib.hid (fun W h => Quote_any s W hz h)
  have HA := Lib.hid (fun W h => Ascii_any s W hz h)
  have HT := Lib.hid ht
  clear ht
  go_enter Tryd.func5, Tryd.ntmps5
  go_wp2_with fail
  refine (shown_any _ HT.out).mono ?_
  rintro r w1 ⟨rfl, hb⟩
  have B1 := Lib.hid hb; have HT1 := Lib.hid (HT.out.below hb)
  clear hb
  go_wp2
  go_loopw [4] (fun v3 wr => ∃ k : Nat, k ≤ 2 ∧ v3 = .int .i64 k ∧ Hid (Below w.heap.size w wr) ∧ Hid (Sh wr)) (fun v3 _ => (2 - intOf v3).toNat)
  case atStart => exact ⟨0, by decide, rfl, B1, HT1⟩
  case round =>
    obtain ⟨k, hk, rfl, HB, HS⟩ := hrel
    rcases (by omega : k = 0 ∨ k = 1 ∨ k = 2) with rfl | rfl | rfl
    · go_wp2_with fail
      refine (HQ.out _ HS.out).mono ?_
      rintro r w2 ⟨rfl, hb⟩
      have B2 := Lib.hid (HB.out.trans (hb.mono HB.out.size)); have HT2 := Lib.hid (HS.out.below hb)
      clear hb
      obtain ⟨R, hRr⟩ : ∃ R, R = tx (wrt false (xp (bl s))) := ⟨_, rfl⟩
      rw [← hRr]
      obtain ⟨mid, hml, hmid, hbl⟩ := wrt_mid false (xp_pts (bl s)) hRr
      have hxl : (xp (bl s)).length ≤ s.size := by rw [← bl_len s]; exact xp_le _
      have hml2 : mid.length ≤ 12000000000000 := by omega
      have hsz : (R.size : Int) = (mid.length : Int) + 2 := by rw [← bl_len R, hbl]; simp; omega
      have h0 : ∀ (h : 0 < R.size), ((R[0]'h).toNat : Int) = 34 := fun h => by rw [← bl_get R 0 h, hbl]; rfl
      have hln : ∀ (h : mid.length + 1 < R.size), ((R[mid.length + 1]'h).toNat : Int) = 34 := fun h => by rw [← bl_get R _ h, hbl]; simp
      have hgt : ∀ (j : Nat) (h : j + 1 < R.size), j < mid.length → ((R[j + 1]'h).toNat : Int) = (mid[j]?.getD 0 : Nat) := fun j h hj => by rw [← bl_get R _ h, hbl]; simp [List.getElem?_append_left hj]
      have HBL := Lib.hid hbl; have HG := Lib.hid hmid; have HRR := Lib.hid hRr; have HGT := Lib.hid hgt
      have hn : 0 < R.size := by omega
      clear hbl hmid hRr hxl hml hgt
      go_wp2
      clear h0 hln
      go_loopw [6] (fun v6 wr2 => ∃ j : Nat, j ≤ mid.length ∧ v6 = .int .i64 ((j : Int) + 1) ∧ Hid (good false (mid.drop j) = true) ∧ Hid (Below w.heap.size w wr2) ∧ Hid (Sh wr2)) (fun v6 _ => (mid.length + 1 - intOf v6).toNat)
      case atStart => exact ⟨0, by omega, rfl, HG, B2, HT2⟩
      case round =>
        obtain ⟨j, hj, rfl, HGj, HBj, HSj⟩ := hrel
        by_cases hjl : j < mid.length
        · have hget := fun h => HGT.out j h hjl
          have hjs : j + 1 < R.size := by omega
          rcases good_next HGj.out hjl with ⟨hc, hj1, hg⟩ | ⟨c1, c2, c3, c4, c5, hg⟩
          · rw [hc] at hget
            have hne : ¬ (j : Int) + 1 + 1 = (mid.length : Int) + 1 := by omega
            have HG2 := Lib.hid hg
            clear hg hc
            go_wp2
            go_roundw
            case rel => exact ⟨j + 2, by omega, by go_num, HG2, HBj, HSj⟩
            case measure => simp [intOf]; omega
          · generalize mid[j]?.getD 0 = c at *
            have k1 : ((c : Int) == 92) = false := by simp; omega
            have k2 : ¬ (c : Int) < 32 := by omega
            have k3 : ((c : Int) == 34) = false := by simp; omega
            have k4 : ((c : Int) == 127) = false := by simp; omega
            skip
            have HG2 := Lib.hid hg
            clear hg c1 c2 c3 c4 c5
            go_wp2
            go_roundw
            case rel => exact ⟨j + 1, by omega, by go_num, HG2, HBj, HSj⟩
            case measure => simp [intOf]; omega
        · have : j = mid.length := by omega
          subst this
          go_wp2
          go_roundw
          case rel => exact ⟨1, by decide, by go_num, HBj, HSj⟩
          case measure => simp [intOf]
    · go_wp2_with fail
      refine (HQ.out _ HS.out).mono ?_
      rintro r w1a ⟨rfl, hb⟩
      have B1a := Lib.hid (HB.out.trans (hb.mono HB.out.size)); have HT1a := Lib.hid (HS.out.below hb)
      clear hb
      go_wp2_with fail
      refine (HA.out _ HT1a.out).mono ?_
      rintro r w2 ⟨rfl, hb⟩
      have B2 := Lib.hid (B1a.out.trans (hb.mono B1a.out.size)); have HT2 := Lib.hid (HT1a.out.below hb)
      clear hb
      obtain ⟨R, hRr⟩ : ∃ R, R = tx (wrt true (xp (bl s))) := ⟨_, rfl⟩
      rw [← hRr]
      obtain ⟨mid, hml, hmid, hbl⟩ := wrt_mid true (xp_pts (bl s)) hRr
      have hxl : (xp (bl s)).length ≤ s.size := by rw [← bl_len s]; exact xp_le _
      have hml2 : mid.length ≤ 12000000000000 := by omega
      have hsz : (R.size : Int) = (mid.length : Int) + 2 := by rw [← bl_len R, hbl]; simp; omega
      have h0 : ∀ (h : 0 < R.size), ((R[0]'h).toNat : Int) = 34 := fun h => by rw [← bl_get R 0 h, hbl]; rfl
      have hln : ∀ (h : mid.length + 1 < R.size), ((R[mid.length + 1]'h).toNat : Int) = 34 := fun h => by rw [← bl_get R _ h, hbl]; simp
      have hgt : ∀ (j : Nat) (h : j + 1 < R.size), j < mid.length → ((R[j + 1]'h).toNat : Int) = (mid[j]?.getD 0 : Nat) := fun j h hj => by rw [← bl_get R _ h, hbl]; simp [List.getElem?_append_left hj]
      have HBL := Lib.hid hbl; have HG := Lib.hid hmid; have HRR := Lib.hid hRr; have HGT := Lib.hid hgt
      have hn : 0 < R.size := by omega
      clear hbl hmid hRr hxl hml hgt
      go_wp2
      clear h0 hln
      go_loopw [6] (fun v6 wr2 => ∃ j : Nat, j ≤ mid.length ∧ v6 = .int .i64 ((j : Int) + 1) ∧ Hid (good true (mid.drop j) = true) ∧ Hid (Below w.heap.size w wr2) ∧ Hid (Sh wr2)) (fun v6 _ => (mid.length + 1 - intOf v6).toNat)
      case atStart => exact ⟨0, by omega, rfl, HG, B2, HT2⟩
      case round =>
        obtain ⟨j, hj, rfl, HGj, HBj, HSj⟩ := hrel
        by_cases hjl : j < mid.length
        · have hget := fun h => HGT.out j h hjl
          have hjs : j + 1 < R.size := by omega
          rcases good_next HGj.out hjl with ⟨hc, hj1, hg⟩ | ⟨c1, c2, c3, c4, c5, hg⟩
          · rw [hc] at hget
            have hne : ¬ (j : Int) + 1 + 1 = (mid.length : Int) + 1 := by omega
            have HG2 := Lib.hid hg
            clear hg hc
            go_wp2
            go_roundw
            case rel => exact ⟨j + 2, by omega, by go_num, HG2, HBj, HSj⟩
            case measure => simp [intOf]; omega
          · generalize mid[j]?.getD 0 = c at *
            have k1 : ((c : Int) == 92) = false := by simp; omega
            have k2 : ¬ (c : Int) < 32 := by omega
            have k3 : ((c : Int) == 34) = false := by simp; omega
            have k4 : ((c : Int) == 127) = false := by simp; omega
            have k5 : (c : Int) ≤ 127 := by have := c5 rfl; omega
            have HG2 := Lib.hid hg
            clear hg c1 c2 c3 c4 c5
            go_wp2
            go_roundw
            case rel => exact ⟨j + 1, by omega, by go_num, HG2, HBj, HSj⟩
            case measure => simp [intOf]; omega
        · have : j = mid.length := by omega
          subst this
          go_wp2
          go_roundw
          case rel => exact ⟨2, by decide, by go_num, HBj, HSj⟩
          case measure => simp [intOf]
    · go_wp2
      go_ret
      exact ⟨rfl, HB.out⟩
end Go.Proofs.YtmiiekkmpkfnhaaDoor
