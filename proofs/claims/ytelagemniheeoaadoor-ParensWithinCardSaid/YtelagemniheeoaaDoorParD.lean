/- parens: Excess; what a node holds; the searches' closures. -/
import Derived.Test.YtelagemniheeoaaDoorParC
namespace Go.Proofs.YtelagemniheeoaaDoor
open Go.RowKit BM

set_option maxHeartbeats 1000000 in
theorem Excess_any (b : Nat) (v : VD) (i : Int) (w : World) (h : VX w b v) (hv : v.rok) : Calls Tryd.prog 18 #[.pointer (some ⟨b, 0, none⟩), .int .i64 i] w fun e w' => e = .returned (.int .i64 (ex v.f (clp v.n i))) ∧ ∃ m, w' = w.drewN m := by
  have hn := hv.2.1
  have hR := Rank_any b v i w h hv
  have hC := fun m => clip_any _ v.n i hn (w.drewN m) (h.dN m).len
  have hp := clp_le v.n i
  have hr := rk_le v.f (clp v.n i)
  unfold ex
  generalize clp v.n i = p at *
  generalize rk v.f p = r at *
  generalize v.n = vn at *
  have HR := Lib.hid hR; have HC := Lib.hid hC
  clear hR hC h hv
  clear v
  go_enter Tryd.func18, Tryd.ntmps18
  go_wp2_with fail
  refine HR.out.mono ?_
  rintro e w' ⟨rfl, m, rfl⟩
  go_wp2_with fail
  refine (HC.out m).mono ?_
  rintro e w' ⟨rfl, rfl⟩
  go_wp2
  go_ret
  exact ⟨ret_int (by omega), m, rfl⟩
/-- what a node holds: the least excess, and how many places have it -/
def lst (v : VD) (d at_ : Nat) : Int × Nat :=
  match d with
  | 0 => (ex v.f at_, 1)
  | d + 1 => match v.lv[d]? with
    | some L => (L.ls[at_]?.getD 0, L.ms[at_]?.getD 0)
    | none => (0, 0)
theorem cn_lo {n d i : Nat} (h : i < cn n d) : lo d i ≤ n := by
  unfold cn at h
  unfold lo
  have h1 := Nat.mul_le_mul_right (2 ^ sh d) (Nat.le_of_lt_succ h)
  have h2 := Nat.div_mul_le_self n (2 ^ sh d)
  omega
theorem lst_agg {v : VD} (h : v.ok) {d i : Nat} (hd : d ≤ v.lv.length) (hi : i < cn v.n d) : IsAgg (ex v.f) (List.range' (lo d i) (hi_ v.n d i - lo d i)) (lst v d i).1 (lst v d i).2 := by
  cases d with
  | zero =>
    have : i ≤ v.n := by simpa [cn, sh] using Nat.le_of_lt_succ hi
    rw [show List.range' (lo 0 i) (hi_ v.n 0 i - lo 0 i) = [i] by
      unfold lo hi_; simp only [sh, Nat.pow_zero, Nat.mul_one]; rw [show min (v.n + 1) (i + 1) - i = 1 by omega]; rfl]
    exact agg_one _ _
  | succ d =>
    obtain ⟨L, hL⟩ : ∃ L, v.lv[d]? = some L := ⟨_, List.getElem?_eq_getElem (by omega)⟩
    obtain ⟨h1, h2, h3⟩ := h.2.1 d L hL
    have e1 : L.ls[i]? = some (L.ls[i]?.getD 0) := by rw [List.getElem?_eq_getElem (by omega)]; rfl
    have e2 : L.ms[i]? = some (L.ms[i]?.getD 0) := by rw [List.getElem?_eq_getElem (by omega)]; rfl
    have := h3 i _ _ e1 e2
    unfold lst
    simp only [hL]
    exact this
theorem cnt_len (g : Nat → Int) (e : Int) : ∀ ps : List Nat, cnt g e ps ≤ ps.length
  | [] => Nat.le_refl _
  | p :: ps => by rw [cnt_cons, List.length_cons]; have := cnt_len g e ps; split <;> omega
theorem agg_bd {v : VD} {d i : Nat} {l : Int} {m : Nat} (h : IsAgg (ex v.f) (List.range' (lo d i) (hi_ v.n d i - lo d i)) l m) : -(v.n : Int) ≤ l ∧ l ≤ v.n ∧ 1 ≤ m ∧ m ≤ v.n + 1 := by
  obtain ⟨h1, h2, h3⟩ := h
  have hl := cnt_len (ex v.f) l (List.range' (lo d i) (hi_ v.n d i - lo d i))
  rw [List.length_range'] at hl
  obtain ⟨p, hp, e⟩ := cnt_pos (h2 ▸ h3)
  rw [List.mem_range'_1] at hp
  have h5 : hi_ v.n d i ≤ v.n + 1 := by unfold hi_; omega
  have := ex_bd v.f p
  omega
set_option maxHeartbeats 1000000 in
theorem count_any (b : Nat) (v : VD) (d : Nat) (w : World) (h : VX w b v) (hv : v.ok) (hd : d ≤ v.lv.length) (hd2 : v.lv.length ≤ 100) : Calls Tryd.prog 50 #[.pointer (some ⟨b, 0, none⟩), .int .i64 d] w fun e w' => e = .returned (.int .i64 (cn v.n d)) ∧ w = w' := by
  have hn := hv.1.2.1
  cases d with
  | zero =>
    have c1 := h.1.2.1
    rw [show cn v.n 0 = v.n + 1 by simp [cn, sh]]
    generalize v.n = vn at *
    clear h hv
    go_enter Tryd.func50, Tryd.ntmps50
    go_wp2
    go_ret
    exact ⟨ret_int (by omega), rfl⟩
  | succ d =>
    obtain ⟨L, hL⟩ : ∃ L, v.lv[d]? = some L := ⟨_, List.getElem?_eq_getElem (by omega)⟩
    have c3 := h.1.2.2.2
    obtain ⟨lb, lo, hla, hlc⟩ := h.2.2.2.1 _ _ (lvv_get0 hL).1
    rw [hla] at c3
    have e := (hv.2.1 d L hL).1
    have hz : (((d + 1 : Nat) : Int) == 0) = false := by simp; omega
    rw [← e]
    have hlen : L.ls.length ≤ 1125899906842625 := by rw [e]; unfold cn; have := Nat.div_le_self v.n (2 ^ sh (d + 1)); omega
    generalize L.ls.length = nl at *
    generalize hk : v.lv.length = kl at *
    generalize v.lc = lcap at *
    have HK := Lib.hid hk
    clear hk e hla hL hv h hn
    rw [Int.natCast_add, show ((1 : Nat) : Int) = 1 from rfl] at hz ⊢
    go_enter Tryd.func50, Tryd.ntmps50
    go_wp2
    go_ret
    exact ⟨rfl, rfl⟩
end Go.Proofs.YtelagemniheeoaaDoor
