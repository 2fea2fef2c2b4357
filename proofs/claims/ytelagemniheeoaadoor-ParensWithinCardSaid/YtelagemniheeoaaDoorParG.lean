/- parens: noMore, Close, Open, Enclose, Size walked. -/
import Derived.Test.YtelagemniheeoaaDoorParF1
import Derived.Test.YtelagemniheeoaaDoorParF2
namespace Go.Proofs.YtelagemniheeoaaDoor
open Go.RowKit BM

theorem more1_any (b : Nat) (v : VD) (i e : Int) (w : World) (hV : VX0 w b v) (hi : 0 ≤ i ∧ i ≤ v.n) :
    Calls Tryd.prog 43 #[.pointer (some ⟨b, 0, none⟩), .int .i64 i, .int .i64 1, .int .i64 e] w (ResI (seek (ex v.f) e (rst true v.n 0 i) 0) w) := by
  have b1 := (Below.refl w.heap.size w).alloc (Nat.le_refl _) (.cells #[.int .i64 e] 3)
  have hF := findF1_any b v i e w.heap.size w.heap.size 0 w (w.alloc (.cells #[.int .i64 e] 3)) hV b1 (Nat.le_refl _) (by simp) ⟨by simp, by simp⟩ (by omega) (by unfold At; simp; omega) (by omega)
  have HF := Lib.hid hF
  have B1 := Lib.hid b1
  clear hF hV b1
  go_enter Tryd.func43, Tryd.ntmps43
  go_wp2_with fail
  refine HF.out.mono ?_
  rintro r w' ⟨rfl, hr⟩
  go_wp2
  go_ret
  exact ⟨rfl, B1.out.trans hr.below⟩
theorem more2_any (b : Nat) (v : VD) (i e : Int) (w : World) (hV : VX0 w b v) (hi : -1 ≤ i ∧ i < v.n) :
    Calls Tryd.prog 43 #[.pointer (some ⟨b, 0, none⟩), .int .i64 i, .int .i64 (-1), .int .i64 e] w (ResI (seek (ex v.f) e (rst false v.n 0 i) 0) w) := by
  have b1 := (Below.refl w.heap.size w).alloc (Nat.le_refl _) (.cells #[.int .i64 e] 3)
  have hat : At false v.n 0 i := by unfold At lo; simp [sh]; omega
  have hF := findF2_any b v i e w.heap.size w.heap.size 0 w (w.alloc (.cells #[.int .i64 e] 3)) hV b1 (Nat.le_refl _) (by simp) ⟨by simp, by simp⟩ (by omega) hat (by omega)
  have HF := Lib.hid hF
  have B1 := Lib.hid b1
  clear hF hV b1 hat
  go_enter Tryd.func43, Tryd.ntmps43
  go_wp2_with fail
  refine HF.out.mono ?_
  rintro r w' ⟨rfl, hr⟩
  go_wp2
  go_ret
  exact ⟨rfl, B1.out.trans hr.below⟩
/-- where the search for the closing bracket ends -/
def clq (f : Nat → Bool) (n i : Nat) : Int := seek (ex f) (ex f i) (rst true n 0 (i + 1 : Nat)) 0
/-- Close, as the program finds it -/
def cls (f : Nat → Bool) (n : Nat) (i : Int) : Int := if opn f n i then (if clq f n i.toNat < 0 then -1 else clq f n i.toNat - 1) else -1
theorem seek_bd {g : Nat → Int} {e : Int} : ∀ (ps : List Nat) (k : Nat), seek g e ps k = -1 ∨ ∃ p ∈ ps, seek g e ps k = (p : Nat)
  | [], _ => Or.inl rfl
  | p :: ps, k => by
    unfold seek
    split
    · exact Or.inr ⟨p, by simp, rfl⟩
    · rcases seek_bd ps (nxt e k (g p) 1) with h | ⟨q, h1, h2⟩
      · exact Or.inl h
      · exact Or.inr ⟨q, List.mem_cons_of_mem _ h1, h2⟩
theorem lo0 (i : Nat) : lo 0 i = i := by unfold lo; simp [sh]
theorem seek_up {g : Nat → Int} {e : Int} {n : Nat} {i : Int} {k : Nat} (hi : 0 ≤ i) : seek g e (rst true n 0 i) k = -1 ∨ (i ≤ seek g e (rst true n 0 i) k ∧ seek g e (rst true n 0 i) k ≤ n) := by
  rcases seek_bd (rst true n 0 i) k (g := g) (e := e) with h | ⟨p, h1, h2⟩
  · exact Or.inl h
  · right
    unfold rst at h1
    rw [if_pos rfl, iv_mem, lo0] at h1
    rw [h2]; omega
theorem seek_down {g : Nat → Int} {e : Int} {n : Nat} {i : Int} {k : Nat} (hi : -1 ≤ i) : seek g e (rst false n 0 i) k = -1 ∨ (0 ≤ seek g e (rst false n 0 i) k ∧ seek g e (rst false n 0 i) k ≤ i) := by
  rcases seek_bd (rst false n 0 i) k (g := g) (e := e) with h | ⟨p, h1, h2⟩
  · exact Or.inl h
  · right
    unfold rst at h1
    rw [if_neg (by simp), iv_mem, lo0] at h1
    rw [h2]; omega
theorem clq_bd (f : Nat → Bool) (n i : Nat) : clq f n i = -1 ∨ ((i : Int) + 1 ≤ clq f n i ∧ clq f n i ≤ n) := by
  have := seek_up (g := ex f) (e := ex f i) (n := n) (i := (i + 1 : Nat)) (k := 0) (by omega)
  unfold clq
  omega
theorem cls_bd (f : Nat → Bool) (n : Nat) (i : Int) : cls f n i = -1 ∨ (0 ≤ i ∧ i < cls f n i + 1 ∧ cls f n i < n ∧ opn f n i = true) := by
  unfold cls
  split
  · rename_i h
    obtain ⟨k, rfl, hk⟩ := hasB_nat (n := n) (i := i) (by unfold opn at h; simp at h; exact h.1)
    rw [Int.toNat_natCast]
    have := clq_bd f n k
    split
    · exact Or.inl rfl
    · right; exact ⟨by omega, by omega, by omega, h⟩
  · exact Or.inl rfl
theorem opn_nat {f : Nat → Bool} {n : Nat} {i : Int} (h : opn f n i = true) : ∃ k : Nat, i = k ∧ k < n ∧ f k = true := by
  unfold opn at h
  simp only [Bool.and_eq_true] at h
  obtain ⟨k, rfl, hk⟩ := hasB_nat h.1
  exact ⟨k, rfl, hk, h.2⟩
theorem clp_nat {n k : Nat} (h : k ≤ n) : clp n k = k := by unfold clp; omega
set_option maxHeartbeats 1000000 in
theorem Close_any (b : Nat) (v : VD) (i : Int) (w : World) (hV : VX0 w b v) (hi : -9223372036854775808 ≤ i ∧ i ≤ 9223372036854775807) :
    Calls Tryd.prog 22 #[.pointer (some ⟨b, 0, none⟩), .int .i64 i] w (ResI (cls v.f v.n i) w) := by
  have hO := Opens_any b v i w hV.1 hV.2.1.1
  have hn := hV.2.1.1.2.1
  by_cases ho : opn v.f v.n i = true
  · obtain ⟨k, rfl, hk, hf⟩ := opn_nat ho
    have hE := Excess_any b v k w hV.1 hV.2.1.1
    rw [clp_nat (by omega)] at hE
    have hM := fun m => more1_any b v ((k : Int) + 1) (ex v.f k) (w.drewN m) hV (by omega)
    have hc : cls v.f v.n k = if clq v.f v.n k < 0 then -1 else clq v.f v.n k - 1 := by unfold cls; rw [if_pos ho, Int.toNat_natCast]
    have hq : seek (ex v.f) (ex v.f k) (rst true v.n 0 ((k : Int) + 1)) 0 = clq v.f v.n k := by unfold clq; rw [Int.natCast_add]; rfl
    have hb := clq_bd v.f v.n k
    rw [hq] at hM
    rw [ho] at hO
    rw [hc]
    have HO := Lib.hid hO; have HE := Lib.hid hE; have HM := Lib.hid hM
    generalize clq v.f v.n k = q at *
    generalize ex v.f k = e at *
    clear hO hE hM hc hq hf ho hV
    generalize v.n = vn at *
    clear v
    by_cases hq0 : q < 0
    · rw [if_pos hq0]
      go_enter Tryd.func22, Tryd.ntmps22
      go_wp2_with fail
      refine HO.out.mono ?_
      rintro r w1 ⟨rfl, rfl⟩
      go_wp2_with fail
      refine HE.out.mono ?_
      rintro r w2 ⟨rfl, m, rfl⟩
      go_wp2_with fail
      refine (HM.out m).mono ?_
      rintro r w3 ⟨rfl, hb3⟩
      go_wp2
      go_ret
      exact ⟨rfl, (Below.dN w m).trans hb3⟩
    · rw [if_neg hq0]
      go_enter Tryd.func22, Tryd.ntmps22
      go_wp2_with fail
      refine HO.out.mono ?_
      rintro r w1 ⟨rfl, rfl⟩
      go_wp2_with fail
      refine HE.out.mono ?_
      rintro r w2 ⟨rfl, m, rfl⟩
      go_wp2_with fail
      refine (HM.out m).mono ?_
      rintro r w3 ⟨rfl, hb3⟩
      go_wp2
      go_ret
      exact ⟨rfl, (Below.dN w m).trans hb3⟩
  · have ho' : opn v.f v.n i = false := by simpa using ho
    rw [ho'] at hO
    rw [show cls v.f v.n i = -1 by unfold cls; rw [ho']; rfl]
    have HO := Lib.hid hO
    clear hO ho ho' hV hn
    go_enter Tryd.func22, Tryd.ntmps22
    go_wp2_with fail
    refine HO.out.mono ?_
    rintro r w1 ⟨rfl, rfl⟩
    go_wp2
    go_ret
    exact ⟨rfl, Below.refl _ _⟩
/-- Open, as the program finds it -/
def opo (f : Nat → Bool) (n : Nat) (i : Int) : Int := if hasB n i && !(f i.toNat) then seek (ex f) (ex f (i.toNat + 1)) (rst false n 0 (i - 1)) 0 else -1
set_option maxHeartbeats 1000000 in
theorem Open_any (b : Nat) (v : VD) (i : Int) (w : World) (hV : VX0 w b v) (hi : -9223372036854775808 ≤ i ∧ i ≤ 9223372036854775807) :
    Calls Tryd.prog 24 #[.pointer (some ⟨b, 0, none⟩), .int .i64 i] w (ResI (opo v.f v.n i) w) := by
  have hH := has_any _ v.n i w hV.1.len
  have hn := hV.2.1.1.2.1
  by_cases hh : hasB v.n i = true
  · have hO := Opens_any b v i w hV.1 hV.2.1.1
    obtain ⟨k, rfl, hk⟩ := hasB_nat hh
    rw [hh] at hH
    by_cases hf : v.f k = true
    · have ho : opn v.f v.n k = true := by unfold opn; rw [hh, Int.toNat_natCast, hf]; rfl
      rw [ho] at hO
      rw [show opo v.f v.n k = -1 by unfold opo; rw [hh, Int.toNat_natCast, hf]; rfl]
      have HH := Lib.hid hH; have HO := Lib.hid hO
      clear hH hO ho hf hV hh hn hk
      clear v
      go_enter Tryd.func24, Tryd.ntmps24
      go_wp2_with fail
      refine HH.out.mono ?_
      rintro r w1 ⟨rfl, rfl⟩
      go_wp2_with fail
      refine HO.out.mono ?_
      rintro r w1 ⟨rfl, rfl⟩
      go_wp2
      go_ret
      exact ⟨rfl, Below.refl _ _⟩
    · have hf' : v.f k = false := by simpa using hf
      have ho : opn v.f v.n k = false := by unfold opn; rw [hh, Int.toNat_natCast, hf']; rfl
      have hE := Excess_any b v ((k : Int) + 1) w hV.1 hV.2.1.1
      rw [show clp v.n ((k : Int) + 1) = k + 1 by unfold clp; omega] at hE
      have hM := fun m => more2_any b v ((k : Int) - 1) (ex v.f (k + 1)) (w.drewN m) hV (by omega)
      rw [ho] at hO
      have hc : opo v.f v.n k = seek (ex v.f) (ex v.f (k + 1)) (rst false v.n 0 ((k : Int) - 1)) 0 := by unfold opo; rw [hh, Int.toNat_natCast, hf']; rfl
      rw [hc]
      have HH := Lib.hid hH; have HO := Lib.hid hO; have HE := Lib.hid hE; have HM := Lib.hid hM
      generalize seek (ex v.f) (ex v.f (k + 1)) (rst false v.n 0 ((k : Int) - 1)) 0 = q at *
      generalize ex v.f (k + 1) = e at *
      clear hH hO hE hM ho hf hf' hc hV hh
      generalize v.n = vn at *
      clear v
      go_enter Tryd.func24, Tryd.ntmps24
      go_wp2_with fail
      refine HH.out.mono ?_
      rintro r w1 ⟨rfl, rfl⟩
      go_wp2_with fail
      refine HO.out.mono ?_
      rintro r w1 ⟨rfl, rfl⟩
      go_wp2_with fail
      refine HE.out.mono ?_
      rintro r w2 ⟨rfl, m, rfl⟩
      go_wp2_with fail
      refine (HM.out m).mono ?_
      rintro r w3 ⟨rfl, hb3⟩
      go_wp2
      go_ret
      exact ⟨rfl, (Below.dN w m).trans hb3⟩
  · have hh' : hasB v.n i = false := by simpa using hh
    rw [hh'] at hH
    rw [show opo v.f v.n i = -1 by unfold opo; rw [hh']; rfl]
    have HH := Lib.hid hH
    clear hH hh hh' hV hn
    go_enter Tryd.func24, Tryd.ntmps24
    go_wp2_with fail
    refine HH.out.mono ?_
    rintro r w1 ⟨rfl, rfl⟩
    go_wp2
    go_ret
    exact ⟨rfl, Below.refl _ _⟩
/-- Enclose, as the program finds it -/
def enq (f : Nat → Bool) (n i : Nat) : Int := seek (ex f) (min (ex f i) (ex f (i + 1)) - 1) (rst false n 0 ((i : Int) - 1)) 0
def enc (f : Nat → Bool) (n : Nat) (i : Int) : Int := if hasB n i then (if cls f n (enq f n i.toNat) < 0 then -1 else enq f n i.toNat) else -1
theorem enq_bd (f : Nat → Bool) (n i : Nat) : -1 ≤ enq f n i ∧ enq f n i ≤ i := by
  have := seek_down (g := ex f) (e := min (ex f i) (ex f (i + 1)) - 1) (n := n) (i := (i : Int) - 1) (k := 0) (by omega)
  unfold enq
  omega
set_option maxHeartbeats 1000000 in
theorem Enclose_any (b : Nat) (v : VD) (i : Int) (w : World) (hV : VX0 w b v) (hi : -9223372036854775808 ≤ i ∧ i ≤ 9223372036854775807) :
    Calls Tryd.prog 26 #[.pointer (some ⟨b, 0, none⟩), .int .i64 i] w (ResI (enc v.f v.n i) w) := by
  have hH := has_any _ v.n i w hV.1.len
  have hn := hV.2.1.1.2.1
  by_cases hh : hasB v.n i = true
  · obtain ⟨k, rfl, hk⟩ := hasB_nat hh
    rw [hh] at hH
    have hE1 := Excess_any b v k w hV.1 hV.2.1.1
    rw [clp_nat (by omega)] at hE1
    have hE2 := fun m => Excess_any b v ((k : Int) + 1) (w.drewN m) hV.1 hV.2.1.1
    rw [show clp v.n ((k : Int) + 1) = k + 1 by unfold clp; omega] at hE2
    have hx1 := ex_bd v.f k
    have hx2 := ex_bd v.f (k + 1)
    have hM := fun W (hb : Below w.heap.size w W) => more2_any b v ((k : Int) - 1) (min (ex v.f k) (ex v.f (k + 1)) - 1) W ⟨hV.1.below hb, hV.2⟩ (by omega)
    have hqb := enq_bd v.f v.n k
    have hC := fun W (hb : Below w.heap.size w W) => Close_any b v (enq v.f v.n k) W ⟨hV.1.below hb, hV.2⟩ (by omega)
    have hc : enc v.f v.n k = if cls v.f v.n (enq v.f v.n k) < 0 then -1 else enq v.f v.n k := by unfold enc; rw [if_pos hh, Int.toNat_natCast]
    have hcb := cls_bd v.f v.n (enq v.f v.n k)
    have hq : seek (ex v.f) (min (ex v.f k) (ex v.f (k + 1)) - 1) (rst false v.n 0 ((k : Int) - 1)) 0 = enq v.f v.n k := rfl
    rw [hq] at hM
    rw [hc]
    have HH := Lib.hid hH; have HE1 := Lib.hid hE1; have HE2 := Lib.hid hE2; have HM := Lib.hid hM; have HC := Lib.hid hC
    generalize cls v.f v.n (enq v.f v.n k) = c at *
    generalize enq v.f v.n k = q at *
    generalize ex v.f (k + 1) = e2 at *
    generalize ex v.f k = e1 at *
    clear hH hE1 hE2 hM hC hq hc hV hh hcb
    generalize v.n = vn at *
    clear v
    by_cases hc0 : c < 0
    · rw [if_pos hc0]
      by_cases hle : e1 ≤ e2
      · rw [show min e1 e2 = e1 by omega] at HM
        go_enter Tryd.func26, Tryd.ntmps26
        go_wp2_with fail
        refine HH.out.mono ?_
        rintro r w1 ⟨rfl, rfl⟩
        go_wp2_with fail
        refine HE1.out.mono ?_
        rintro r w2 ⟨rfl, m, rfl⟩
        go_wp2_with fail
        refine (HE2.out m).mono ?_
        rintro r w2 ⟨rfl, m2, rfl⟩
        have hb2 : Below w.heap.size w ((w.drewN m).drewN m2) := (Below.dN w m).trans (Below.dN _ m2)
        generalize (w.drewN m).drewN m2 = w2 at *
        go_wp2_with fail
        refine (HM.out w2 hb2).mono ?_
        rintro r w3 ⟨rfl, hb3⟩
        have hb4 := hb2.trans (hb3.mono hb2.size)
        clear hb2 hb3
        go_wp2_with fail
        refine (HC.out w3 hb4).mono ?_
        rintro r w4 ⟨rfl, hb5⟩
        go_wp2
        go_ret
        exact ⟨rfl, hb4.trans (hb5.mono hb4.size)⟩
      · rw [show min e1 e2 = e2 by omega] at HM
        go_enter Tryd.func26, Tryd.ntmps26
        go_wp2_with fail
        refine HH.out.mono ?_
        rintro r w1 ⟨rfl, rfl⟩
        go_wp2_with fail
        refine HE1.out.mono ?_
        rintro r w2 ⟨rfl, m, rfl⟩
        go_wp2_with fail
        refine (HE2.out m).mono ?_
        rintro r w2 ⟨rfl, m2, rfl⟩
        have hb2 : Below w.heap.size w ((w.drewN m).drewN m2) := (Below.dN w m).trans (Below.dN _ m2)
        generalize (w.drewN m).drewN m2 = w2 at *
        go_wp2_with fail
        refine (HM.out w2 hb2).mono ?_
        rintro r w3 ⟨rfl, hb3⟩
        have hb4 := hb2.trans (hb3.mono hb2.size)
        clear hb2 hb3
        go_wp2_with fail
        refine (HC.out w3 hb4).mono ?_
        rintro r w4 ⟨rfl, hb5⟩
        go_wp2
        go_ret
        exact ⟨rfl, hb4.trans (hb5.mono hb4.size)⟩
    · rw [if_neg hc0]
      by_cases hle : e1 ≤ e2
      · rw [show min e1 e2 = e1 by omega] at HM
        go_enter Tryd.func26, Tryd.ntmps26
        go_wp2_with fail
        refine HH.out.mono ?_
        rintro r w1 ⟨rfl, rfl⟩
        go_wp2_with fail
        refine HE1.out.mono ?_
        rintro r w2 ⟨rfl, m, rfl⟩
        go_wp2_with fail
        refine (HE2.out m).mono ?_
        rintro r w2 ⟨rfl, m2, rfl⟩
        have hb2 : Below w.heap.size w ((w.drewN m).drewN m2) := (Below.dN w m).trans (Below.dN _ m2)
        generalize (w.drewN m).drewN m2 = w2 at *
        go_wp2_with fail
        refine (HM.out w2 hb2).mono ?_
        rintro r w3 ⟨rfl, hb3⟩
        have hb4 := hb2.trans (hb3.mono hb2.size)
        clear hb2 hb3
        go_wp2_with fail
        refine (HC.out w3 hb4).mono ?_
        rintro r w4 ⟨rfl, hb5⟩
        go_wp2
        go_ret
        exact ⟨rfl, hb4.trans (hb5.mono hb4.size)⟩
      · rw [show min e1 e2 = e2 by omega] at HM
        go_enter Tryd.func26, Tryd.ntmps26
        go_wp2_with fail
        refine HH.out.mono ?_
        rintro r w1 ⟨rfl, rfl⟩
        go_wp2_with fail
        refine HE1.out.mono ?_
        rintro r w2 ⟨rfl, m, rfl⟩
        go_wp2_with fail
        refine (HE2.out m).mono ?_
        rintro r w2 ⟨rfl, m2, rfl⟩
        have hb2 : Below w.heap.size w ((w.drewN m).drewN m2) := (Below.dN w m).trans (Below.dN _ m2)
        generalize (w.drewN m).drewN m2 = w2 at *
        go_wp2_with fail
        refine (HM.out w2 hb2).mono ?_
        rintro r w3 ⟨rfl, hb3⟩
        have hb4 := hb2.trans (hb3.mono hb2.size)
        clear hb2 hb3
        go_wp2_with fail
        refine (HC.out w3 hb4).mono ?_
        rintro r w4 ⟨rfl, hb5⟩
        go_wp2
        go_ret
        exact ⟨rfl, hb4.trans (hb5.mono hb4.size)⟩
  · have hh' : hasB v.n i = false := by simpa using hh
    rw [hh'] at hH
    rw [show enc v.f v.n i = -1 by unfold enc; rw [hh']; rfl]
    have HH := Lib.hid hH
    clear hH hh hh' hV hn
    go_enter Tryd.func26, Tryd.ntmps26
    go_wp2_with fail
    refine HH.out.mono ?_
    rintro r w1 ⟨rfl, rfl⟩
    go_wp2
    go_ret
    exact ⟨rfl, Below.refl _ _⟩
/-- Size, as the program finds it -/
def siz (f : Nat → Bool) (n : Nat) (i : Int) : Int := if cls f n i < 0 then 0 else (cls f n i - i + 1) / 2
theorem Size_any (b : Nat) (v : VD) (i : Int) (w : World) (hV : VX0 w b v) (hi : -9223372036854775808 ≤ i ∧ i ≤ 9223372036854775807) :
    Calls Tryd.prog 28 #[.pointer (some ⟨b, 0, none⟩), .int .i64 i] w (ResI (siz v.f v.n i) w) := by
  have hC := Close_any b v i w hV hi
  have hn := hV.2.1.1.2.1
  have hb := cls_bd v.f v.n i
  unfold siz
  generalize cls v.f v.n i = c at *
  have HC := Lib.hid hC
  by_cases hc : c < 0
  · rw [if_pos hc]
    clear hC hV hb hn
    go_enter Tryd.func28, Tryd.ntmps28
    go_wp2_with fail
    refine HC.out.mono ?_
    rintro r w1 ⟨rfl, hb⟩
    go_wp2
    go_ret
    exact ⟨rfl, hb⟩
  · rw [if_neg hc]
    have hb1 : 0 ≤ i ∧ i ≤ c ∧ c ≤ 1125899906842624 := by omega
    clear hC hV hb hn
    go_enter Tryd.func28, Tryd.ntmps28
    go_wp2_with fail
    refine HC.out.mono ?_
    rintro r w1 ⟨rfl, hb⟩
    go_wp2
    go_ret
    exact ⟨rfl, hb⟩
end Go.Proofs.YtelagemniheeoaaDoor
