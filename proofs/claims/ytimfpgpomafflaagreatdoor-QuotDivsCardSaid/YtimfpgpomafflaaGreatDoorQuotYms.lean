/- Mathematics of the document's long division. Nothing of the program. -/
import Derived.Test.YtimfpgpomafflaaGreatDoorQuotH
import Derived.Test.YtimfpgpomafflaaGreatDoorQuotPs
import Derived.Test.YtimfpgpomafflaaGreatDoorQuotV
import Derived.Test.YtimfpgpomafflaaGreatDoorDecQs
namespace Go.Proofs.YtimfpgpomafflaaGreatDoor
open Go.RowKit LM

/-- the document's answer, by where its two loops end -/
theorem quot_doc {u v k j : Nat} (hu : 0 < u) (hv : 0 < v) (h1 : v * 10 ^ j ≤ u * 10 ^ k) (h2 : u * 10 ^ k < 10 * (v * 10 ^ j)) :
    lqE u v = (j : Int) - k - 33 ∧ lqV u v (lqE u v) = rnd 4 false (u * 10 ^ k * 10 ^ 33 / (v * 10 ^ j)) (u * 10 ^ k * 10 ^ 33 % (v * 10 ^ j)) (v * 10 ^ j) := by
  have e : lqE u v = (j : Int) - k - 33 := by
    have hf := lqE_fit (N := k + 33 + (dl v + 34)) hu hv (by omega)
    refine fit_unique hf ?_ ?_ (by omega)
    · unfold Fit
      rw [show ((j : Int) - k - 33 + ((k + 33 + (dl v + 34) : Nat) : Int)).toNat = j + (dl v + 34) by omega]
      rw [Nat.pow_add 10 j, Nat.pow_add 10 (k + 33), Nat.pow_add 10 k, ← Nat.mul_assoc v, ← Nat.mul_assoc u, ← Nat.mul_assoc u, ← Nat.mul_assoc (10 ^ 33), ← Nat.mul_assoc (10 ^ 34)]
      have hp : 0 < 10 ^ (dl v + 34) := Nat.pow_pos (by omega)
      generalize v * 10 ^ j = b at *
      generalize u * 10 ^ k = r at *
      constructor
      · refine Nat.mul_le_mul_right _ ?_
        omega
      · refine Nat.mul_lt_mul_of_pos_right ?_ hp
        omega
    · unfold lqE lqF; split <;> omega
  refine ⟨e, ?_⟩
  rw [e, lqV_scaled (N := k + 33) (by omega)]
  rw [show ((j : Int) - k - 33 + ((k + 33 : Nat) : Int)).toNat = j by omega, Nat.pow_add, ← Nat.mul_assoc]
/-- rounding by the doubled rest -/
theorem rnd_half {q r b : Nat} : rnd 4 false q r b = if b < r + r ∨ (r + r = b ∧ q % 2 = 1) then q + 1 else q := by
  have key : away 4 false q r b = if 2 * r = b then decide (q % 2 = 1) else decide (b ≤ 2 * r) := rfl
  unfold rnd
  rw [key]
  by_cases h : 2 * r = b
  · rw [if_pos h]
    by_cases h2 : q % 2 = 1
    · rw [if_pos (by simpa using h2), if_pos (.inr ⟨by omega, h2⟩)]
    · rw [if_neg (by simpa using h2), if_neg (by omega)]
  · rw [if_neg h]
    by_cases h2 : b ≤ 2 * r
    · rw [if_pos (by simpa using h2), if_pos (.inl (by omega))]
    · rw [if_neg (by simpa using h2), if_neg (by omega)]
theorem dl_of_lt {m K : Nat} (h : m < 10 ^ K) : (dg 10 m).length ≤ K := dl_lt h
/-- one digit more -/
theorem step_inv {X q b rest : Nat} (h : X = q * (10 * b) + rest) : X = (q * 10 + rest / b) * b + rest % b := by
  have := Nat.div_add_mod rest b
  rw [h, Nat.add_mul, Nat.mul_assoc, Nat.mul_comm (rest / b) b]
  omega
theorem step_ten {X q b r : Nat} (h : X = q * b + r) : X * 10 = q * (10 * b) + r * 10 := by
  rw [h, Nat.add_mul, Nat.mul_assoc q b 10, Nat.mul_comm b 10]
theorem few {X q b rest i : Nat} (hX : X < 10 * b * 10 ^ i) (h : X = q * (10 * b) + rest) : q < 10 ^ i := by
  have h1 : q * (10 * b) < 10 ^ i * (10 * b) := by rw [Nat.mul_comm (10 ^ i)]; omega
  exact Nat.lt_of_mul_lt_mul_right h1
/-- few digits -/
def Sm (K x : Nat) : Prop := x < 10 ^ K
theorem Sm.up {K L x : Nat} (h : Sm K x) (hL : K ≤ L) : Sm L x := Nat.lt_of_lt_of_le h (Nat.pow_le_pow_right (by omega) hL)
theorem Sm.le {K x y : Nat} (h : Sm K y) (hxy : x ≤ y) : Sm K x := Nat.lt_of_le_of_lt hxy h
theorem Sm.ten {K x : Nat} (h : Sm K x) : Sm (K + 1) (x * 10) := by
  have h' : x < 10 ^ K := h
  show x * 10 < 10 ^ (K + 1)
  rw [Nat.pow_succ]; omega
theorem Sm.two {K x : Nat} (h : Sm K x) : Sm (K + 1) (x + x) := by
  have := h.ten; exact Sm.le this (by omega)
theorem Sm.len {K x : Nat} (h : Sm K x) : (dg 10 x).length ≤ K := dl_lt h
theorem Sm.k {K u m : Nat} (hu : 0 < u) (h : Sm K (u * 10 ^ m)) : m < K := by
  have h' : u * 10 ^ m < 10 ^ K := h
  have h2 : 10 ^ m ≤ u * 10 ^ m := Nat.le_mul_of_pos_left _ hu
  exact (Nat.pow_lt_pow_iff_right (by omega : 1 < 10)).1 (Nat.lt_of_le_of_lt h2 h')
theorem Sm.of_dl {u : Nat} (h : dl u ≤ 400) : Sm 400 u := Sm.up (K := dl u) (lt_dl u) h
theorem pow_next (u k : Nat) : u * 10 ^ (k + 1) = u * 10 ^ k * 10 := by rw [Nat.pow_succ, Nat.mul_assoc]
/-- the first loop -/
theorem loop1_small {u v k X : Nat} (hX : X = u * 10 ^ k) (hu : Sm 400 u) (hv : Sm 400 v) (hk : k = 0 ∨ u * 10 ^ (k - 1) < v) : Sm 401 X := by
  rcases hk with h | h
  · rw [hX, h, Nat.pow_zero, Nat.mul_one]; exact hu.up (by omega)
  · rcases Nat.eq_zero_or_pos k with h0 | h0
    · rw [hX, h0, Nat.pow_zero, Nat.mul_one]; exact hu.up (by omega)
    · rw [hX, show k = k - 1 + 1 by omega, pow_next]
      exact Sm.ten (Sm.le hv (Nat.le_of_lt h))
theorem loop1_k {u v k : Nat} (hu : 0 < u) (hv : Sm 400 v) (hk : k = 0 ∨ u * 10 ^ (k - 1) < v) : k ≤ 400 := by
  rcases hk with h | h
  · omega
  · have := Sm.k hu (Sm.le hv (Nat.le_of_lt h)); omega
theorem few0 {X b q rest i : Nat} (h0 : X < 10 * b) (h : X * 10 ^ i = q * (10 * b) + rest) : Sm i q := by
  have hp : 0 < 10 ^ i := Nat.pow_pos (by omega)
  exact few (X := X * 10 ^ i) (Nat.mul_lt_mul_of_pos_right h0 hp) h
theorem last_few {X b q rest n : Nat} (h0 : X < 10 * b) (h : X * 10 ^ n = q * b + rest) : Sm (n + 1) q := by
  have hp : 0 < 10 ^ n := Nat.pow_pos (by omega)
  have h1 : X * 10 ^ n < 10 * b * 10 ^ n := Nat.mul_lt_mul_of_pos_right h0 hp
  have h2 : 10 * b * 10 ^ n = 10 ^ (n + 1) * b := by rw [Nat.pow_succ, Nat.mul_comm 10 b, Nat.mul_assoc, Nat.mul_comm b, Nat.mul_comm 10]
  rw [h, h2] at h1
  exact Nat.lt_of_mul_lt_mul_right (Nat.lt_of_le_of_lt (Nat.le_add_right _ _) h1)
theorem last_pos {X b q rest n : Nat} (h0 : b ≤ X) (h : X * 10 ^ n = q * b + rest) (hr : rest < b) : 0 < q := by
  rcases Nat.eq_zero_or_pos q with h1 | h1
  · rw [h1, Nat.zero_mul, Nat.zero_add] at h
    have : X ≤ X * 10 ^ n := Nat.le_mul_of_pos_right _ (Nat.pow_pos (by omega))
    omega
  · exact h1
/-- behind the third loop -/
def Loop3 (X b q rest : Nat) (E e : Int) (i : Nat) : Prop := (i < 34 → X * 10 ^ i = q * (10 * b) + rest ∧ rest < 10 * b ∧ e = E - i) ∧ (i = 34 → X * 10 ^ 33 = q * b + rest ∧ rest < b ∧ e = E - 33)
theorem loop3_next {X b q rest : Nat} {E e : Int} {i : Nat} (h : Loop3 X b q rest E e i) (hi : i < 33) (hb : 0 < b) : Loop3 X b (q * 10 + rest / b) (rest % b * 10) E (e - 1) (i + 1) := by
  obtain ⟨h1, h2, h3⟩ := h.1 (by omega)
  refine ⟨fun _ => ⟨?_, ?_, ?_⟩, fun h => by omega⟩
  · have := step_ten (step_inv h1)
    rw [Nat.pow_succ, ← Nat.mul_assoc]; exact this
  · have := Nat.mod_lt rest hb; omega
  · rw [h3]; omega
theorem loop3_last {X b q rest : Nat} {E e : Int} {i : Nat} (h : Loop3 X b q rest E e i) (hi : i < 34) (hi2 : ¬ i < 33) (hb : 0 < b) : Loop3 X b (q * 10 + rest / b) (rest % b) E e (i + 1) := by
  have : i = 33 := by omega
  subst this
  obtain ⟨h1, h2, h3⟩ := h.1 (by omega)
  exact ⟨fun h => by omega, fun _ => ⟨step_inv h1, Nat.mod_lt rest hb, h3⟩⟩
/-- the document's answer, rounded -/
theorem quot_end {u v k j X b q rest Q : Nat} {E0 e : Int} (hu : 0 < u) (hv : 0 < v) (hX : X = u * 10 ^ k) (hb : b = v * 10 ^ j) (h1 : b ≤ X) (h2 : X < 10 * b) (h : X * 10 ^ 33 = q * b + rest) (hr : rest < b) (he : e = E0 - k + j - 33)
    (hQ : Q = if b < rest + rest ∨ (rest + rest = b ∧ q % 2 = 1) then q + 1 else q) (s : Bool) : pl s Q e = pl s (lqV u v (lqE u v)) (E0 + lqE u v) := by
  subst hX hb
  obtain ⟨e1, e2⟩ := quot_doc hu hv h1 h2
  have hpos : 0 < v * 10 ^ j := by omega
  have d1 : u * 10 ^ k * 10 ^ 33 / (v * 10 ^ j) = q := by
    rw [h]; exact Nat.div_eq_of_lt_le (by omega) (by rw [Nat.add_mul]; omega)
  have d2 : u * 10 ^ k * 10 ^ 33 % (v * 10 ^ j) = rest := by
    rw [h, Nat.mul_comm q, Nat.mul_add_mod]; exact Nat.mod_eq_of_lt hr
  rw [e2, d1, d2, rnd_half, ← hQ, e1, he]
  congr 1
  omega
theorem first_digit {q : Nat} (h : 0 < q) : (dg 10 q)[0]?.getD 0 = q % 10 := by rw [dg_pos (by omega) h]; rfl
theorem dg_some {q : Nat} (h : 0 < q) : 0 < (dg 10 q).length := dl_pos h
end Go.Proofs.YtimfpgpomafflaaGreatDoor

/- The document's long division. -/
namespace Go.Proofs.YtimfpgpomafflaaGreatDoor
open Go.RowKit LM

theorem qCmp (x y : Nat) (a b : Option Addr) (ca cb : Nat) (w : World) (hx : Sm 500 x) (hy : Sm 500 y) (ha : RdC w a ca x) (hb : RdC w b cb y) :
    Calls Tryz.prog 75 #[.slice a (dg 10 x).length ca, .slice b (dg 10 y).length cb] w fun e w' => e = .returned (.int .i64 (cmpN x y)) ∧ Below w.heap.size w w' :=
  RCmp_any a b ca cb x y w (Nat.le_trans hx.len (by omega)) (Nat.le_trans hy.len (by omega)) ha.1 hb.1
theorem qShift (x y : Nat) (hy : y = x * 10) (a : Option Addr) (ca : Nat) (w : World) (hx : Sm 500 x) (ha : RdC w a ca x) :
    Calls Tryz.prog 48 #[.slice a (dg 10 x).length ca, .int .i64 1] w (ResDg y w) := by
  have h := RShift_rd x a ca (N := 1) 1 rfl w (Nat.le_trans hx.len (by omega)) (by omega) ha
  rw [Nat.pow_one, ← hy] at h; exact h
theorem qAdd (x y z : Nat) (hz : z = x + y) (a b : Option Addr) (ca cb : Nat) (w : World) (hx : Sm 500 x) (hy : Sm 500 y) (ha : RdC w a ca x) (hb : RdC w b cb y) :
    Calls Tryz.prog 76 #[.slice a (dg 10 x).length ca, .slice b (dg 10 y).length cb] w (ResDg z w) := by
  subst hz; exact add10 x y a b ca cb w (Nat.le_trans hx.len (by omega)) (Nat.le_trans hy.len (by omega)) ha hb
theorem qDiv (x y q r : Nat) (hq : q = x / y) (hr : r = x % y) (a b : Option Addr) (ca cb : Nat) (w : World) (hx : Sm 500 x) (hy : Sm 500 y) (hp : 0 < y) (ha : RdC w a ca x) (hb : RdC w b cb y) :
    Calls Tryz.prog 47 #[.slice a (dg 10 x).length ca, .slice b (dg 10 y).length cb] w fun e w' => ∃ a1 c1 a2 c2, e = .returned (.tuple #[.slice a1 (dg 10 q).length c1, .slice a2 (dg 10 r).length c2]) ∧ RdC w' a1 c1 q ∧ RdC w' a2 c2 r ∧ Below w.heap.size w w' := by
  subst hq hr; exact div10 x y a b ca cb w (Nat.le_trans hx.len (by omega)) (Nat.le_trans hy.len (by omega)) hp ha hb
theorem Rd.byte {w : World} {k : IntKind} {a : Option Addr} {l : List Nat} (h : Rd w k a l) (j : Nat) (hj : j < l.length) :
    ∃ b off x, a = some ⟨b, off, none⟩ ∧ Hid (l[j]?.getD 0 = x) ∧ w.cell? ⟨b, off + j, none⟩ = some (.int k (x : Int)) := by
  obtain ⟨b, off, e, hc⟩ := h j hj
  exact ⟨b, off, _, e, Lib.hid rfl, hc⟩
set_option maxHeartbeats 16000000 in
set_option maxRecDepth 100000 in
theorem Quotient_any (s1 s2 : Bool) (u v : Nat) (e1 e2 : Int) (a1 a2 : Option Addr) (c1 c2 : Nat) (w : World) (hu : 0 < u) (hv : 0 < v) (du : Sm 400 u) (dv : Sm 400 v) (g1 : -20000 ≤ e1) (g2 : e1 ≤ 20000) (g3 : -20000 ≤ e2) (g4 : e2 ≤ 20000) (ha : RdC w a1 c1 u) (hb : RdC w a2 c2 v) :
    Calls Tryz.prog 39 #[.agg #[.bool s1, .slice a1 (dg 10 u).length c1, .int .i64 e1], .agg #[.bool s2, .slice a2 (dg 10 v).length c2, .int .i64 e2]] w (ResM (pl (!(s1 == s2)) (lqV u v (lqE u v)) (e1 - e2 + lqE u v)) w) := by
  have HU := Lib.hid ha; have HV := Lib.hid hb
  have DU := Lib.hid du; have DV := Lib.hid dv; have PU := Lib.hid hu; have PV := Lib.hid hv
  clear ha hb du dv hu hv
  go_enter Tryz.func39, Tryz.ntmps39
  have b1 := ((((Below.refl w.heap.size w).alloc (Nat.le_refl _) (.cells #[.bool s1, .slice a1 (dg 10 u).length c1, .int .i64 e1] 53)).alloc (by simp) (.cells #[.bool s2, .slice a2 (dg 10 v).length c2, .int .i64 e2] 53)).alloc (by simp; omega) (.cells #[.bool false, .slice none 0 0, .int .i64 0] 53))
  have X_x := (Qx.below (Qx.below (Qx.new w (.bool s1) (.slice a1 (dg 10 u).length c1) (.int .i64 e1) 53) ((Below.refl _ _).alloc (Nat.le_refl _) (.cells #[.bool s2, .slice a2 (dg 10 v).length c2, .int .i64 e2] 53))) ((Below.refl _ _).alloc (Nat.le_refl _) (.cells #[.bool false, .slice none 0 0, .int .i64 0] 53)))
  have F_x := (Qf.below (Qf.below (Qf.new w (.bool s1) (.slice a1 (dg 10 u).length c1) (.int .i64 e1) 53) (Qx.lt (Qx.new w (.bool s1) (.slice a1 (dg 10 u).length c1) (.int .i64 e1) 53)) ((Below.refl _ _).alloc (Nat.le_refl _) (.cells #[.bool s2, .slice a2 (dg 10 v).length c2, .int .i64 e2] 53))) (Qx.lt (Qx.below (Qx.new w (.bool s1) (.slice a1 (dg 10 u).length c1) (.int .i64 e1) 53) ((Below.refl _ _).alloc (Nat.le_refl _) (.cells #[.bool s2, .slice a2 (dg 10 v).length c2, .int .i64 e2] 53)))) ((Below.refl _ _).alloc (Nat.le_refl _) (.cells #[.bool false, .slice none 0 0, .int .i64 0] 53)))
  have X_y := (Qx.below (Qx.new (w.alloc (.cells #[.bool s1, .slice a1 (dg 10 u).length c1, .int .i64 e1] 53)) (.bool s2) (.slice a2 (dg 10 v).length c2) (.int .i64 e2) 53) ((Below.refl _ _).alloc (Nat.le_refl _) (.cells #[.bool false, .slice none 0 0, .int .i64 0] 53)))
  have F_y := (Qf.below (Qf.new (w.alloc (.cells #[.bool s1, .slice a1 (dg 10 u).length c1, .int .i64 e1] 53)) (.bool s2) (.slice a2 (dg 10 v).length c2) (.int .i64 e2) 53) (Qx.lt (Qx.new (w.alloc (.cells #[.bool s1, .slice a1 (dg 10 u).length c1, .int .i64 e1] 53)) (.bool s2) (.slice a2 (dg 10 v).length c2) (.int .i64 e2) 53)) ((Below.refl _ _).alloc (Nat.le_refl _) (.cells #[.bool false, .slice none 0 0, .int .i64 0] 53)))
  have z : (w.alloc (.cells #[.bool s1, .slice a1 (dg 10 u).length c1, .int .i64 e1] 53)).heap.size = w.heap.size + 1 := by simp
  rw [z] at X_y F_y
  clear z
  have X_r := (Qx.new ((w.alloc (.cells #[.bool s1, .slice a1 (dg 10 u).length c1, .int .i64 e1] 53)).alloc (.cells #[.bool s2, .slice a2 (dg 10 v).length c2, .int .i64 e2] 53)) (.bool false) (.slice none 0 0) (.int .i64 0) 53)
  have F_r := (Qf.new ((w.alloc (.cells #[.bool s1, .slice a1 (dg 10 u).length c1, .int .i64 e1] 53)).alloc (.cells #[.bool s2, .slice a2 (dg 10 v).length c2, .int .i64 e2] 53)) (.bool false) (.slice none 0 0) (.int .i64 0) 53)
  have z : ((w.alloc (.cells #[.bool s1, .slice a1 (dg 10 u).length c1, .int .i64 e1] 53)).alloc (.cells #[.bool s2, .slice a2 (dg 10 v).length c2, .int .i64 e2] 53)).heap.size = w.heap.size + 1 + 1 := by simp
  rw [z] at X_r F_r
  clear z
  obtain ⟨kx0, kx1, kx2⟩ := X_x.out
  obtain ⟨ky0, ky1, ky2⟩ := X_y.out
  go_wp2_with fail
  clear kx0 kx1 kx2 ky0 ky1 ky2
  have RU := Lib.hid (HU.out.below b1)
  have RV := Lib.hid (HV.out.below b1)
  have B1 := Lib.hid b1
  generalize (((w.alloc (.cells #[.bool s1, .slice a1 (dg 10 u).length c1, .int .i64 e1] 53)).alloc (.cells #[.bool s2, .slice a2 (dg 10 v).length c2, .int .i64 e2] 53)).alloc (.cells #[.bool false, .slice none 0 0, .int .i64 0] 53)) = W at *
  clear b1 HU HV
  obtain ⟨E0, hE0⟩ : ∃ E, E = e1 - e2 := ⟨_, rfl⟩
  have HE := Lib.hid hE0
  have n1 : -40000 ≤ E0 := by omega
  have n2 : E0 ≤ 40000 := by omega
  rw [← hE0]
  clear hE0
  go_loopw [5, 6] (fun s5 s6 wr => ∃ (k X : Nat) (a : Option Addr) (c : Nat), k ≤ 401 ∧ s5 = .int .i64 (E0 - k) ∧ s6 = .slice a (dg 10 X).length c ∧ Hid (X = u * 10 ^ k) ∧ Hid (RdC wr a c X) ∧ Hid (k = 0 ∨ u * 10 ^ (k - 1) < v) ∧ Hid (Below W.heap.size W wr)) (fun s5 _ _ => (intOf s5 + 50000).toNat)
  case atStart => exact ⟨0, u, a1, c1, by omega, by simp, rfl, Lib.hid (by simp), RU, Lib.hid (.inl rfl), Lib.hid (Below.refl _ _)⟩
  case round =>
    obtain ⟨k, X, a, c, hk, rfl, rfl, HX, HR, HK, HB⟩ := hrel
    have HX5 := Lib.hid (loop1_small HX.out DU.out DV.out HK.out)
    have hk4 : k ≤ 400 := loop1_k PU.out DV.out HK.out
    have hC := fun W' (hb : Below _ wr W') => qCmp X v a a2 c c2 W' (HX5.out.up (by omega)) (DV.out.up (by omega)) (HR.out.below hb) (RV.out.below (HB.out.trans (hb.mono HB.out.size)))
    have HC := Lib.hid hC
    clear hC
    by_cases hlt : X < v
    · have hc := cmpN_lt hlt
      have HC2 := Lib.hid (HC.out wr (Below.refl _ _))
      rw [hc] at HC2
      clear hc
      have HS := Lib.hid (fun W' (hb : Below _ wr W') => qShift X (X * 10) rfl a c W' (HX5.out.up (by omega)) (HR.out.below hb))
      generalize hY : X * 10 = Y at HS
      have HY := Lib.hid hY
      have HLT := Lib.hid hlt
      clear hY hlt
      go_wp2_with fail
      refine HC2.out.mono ?_
      rintro r w2 ⟨rfl, hc2⟩
      have z2 := Lib.hid hc2
      clear hc2
      go_wp2_with fail
      refine (HS.out _ z2.out).mono ?_
      rintro r w3 ⟨xa, xc, rfl, ho, hc3⟩
      have z3 := Lib.hid (z2.out.trans (hc3.mono z2.out.size))
      have HO := Lib.hid ho
      clear ho hc3
      go_wp2_with fail
      go_roundw
      case rel => exact ⟨k + 1, Y, xa, xc, by omega, by congr 1; omega, rfl, Lib.hid (by rw [← HY.out, HX.out, pow_next]), HO, Lib.hid (.inr (by rw [show k + 1 - 1 = k from rfl, ← HX.out]; exact HLT.out)), Lib.hid (HB.out.trans (z3.out.mono HB.out.size))⟩
      case measure => simp [intOf]; omega
    · have hc : 0 ≤ cmpN X v := by unfold cmpN; rw [if_neg hlt]; split <;> omega
      have HL := Lib.hid (show v ≤ X by omega)
      clear hlt
      have HC2 := Lib.hid (HC.out wr (Below.refl _ _))
      generalize cmpN X v = cv at *
      go_wp2_with fail
      refine HC2.out.mono ?_
      rintro r w2 ⟨rfl, hc2⟩
      have B2 := Lib.hid (HB.out.trans (hc2.mono HB.out.size))
      have R2 := Lib.hid (HR.out.below hc2)
      clear hc2 HB HR HC HC2
      go_wp2_with fail
      clear hc
      go_loopw [5, 7] (fun s5 s7 wr => ∃ (j Bv : Nat) (ab : Option Addr) (cb : Nat), j ≤ 402 ∧ s5 = .int .i64 (E0 - k + j) ∧ s7 = .slice ab (dg 10 Bv).length cb ∧ Hid (Bv = v * 10 ^ j) ∧ Hid (RdC wr ab cb Bv) ∧ Hid (Bv ≤ X) ∧ Hid (Below w2.heap.size w2 wr)) (fun s5 _ _ => (50000 - intOf s5).toNat)
      case atStart => exact ⟨0, v, a2, c2, by omega, by simp, rfl, Lib.hid (by simp), Lib.hid (RV.out.below B2.out), HL, Lib.hid (Below.refl _ _)⟩
      case round =>
        obtain ⟨j, Bv, ab, cb, hj, rfl, rfl, HBv, HRb, HLe, HB⟩ := hrel
        have HB5 : Hid (Sm 401 Bv) := Lib.hid (Sm.le HX5.out HLe.out)
        have hj4 : j ≤ 400 := by have := Sm.k PV.out (show Sm 401 (v * 10 ^ j) by rw [← HBv.out]; exact HB5.out); omega
        obtain ⟨Y, hY⟩ : ∃ Y, Y = Bv * 10 := ⟨_, rfl⟩
        have HY := Lib.hid hY
        clear hY
        have HS := Lib.hid (fun W' (hb : Below _ wr W') => qShift Bv Y HY.out ab cb W' (HB5.out.up (by omega)) (HRb.out.below hb))
        have HC := Lib.hid (fun a' c' W' (hb : Below _ wr W') (hy : RdC W' a' c' Y) => qCmp X Y a a' c c' W' (HX5.out.up (by omega)) (Sm.up (K := 402) (by rw [HY.out]; exact HB5.out.ten) (by omega)) (R2.out.below (HB.out.trans (hb.mono HB.out.size))) hy)
        go_wp2_with fail
        refine (HS.out _ (Below.refl _ _)).mono ?_
        rintro r w3 ⟨xa, xc, rfl, ho, hc3⟩
        have z3 := Lib.hid hc3
        have HO := Lib.hid ho
        clear ho hc3
        by_cases hlt : Y ≤ X
        · have hc : 0 ≤ cmpN X Y := by unfold cmpN; rw [if_neg (by omega)]; split <;> omega
          have HLT := Lib.hid hlt
          clear hlt
          have HC2 := Lib.hid (HC.out _ _ w3 z3.out HO.out)
          generalize cmpN X Y = cv at *
          go_wp2_with fail
          refine HC2.out.mono ?_
          rintro r w4 ⟨rfl, hc4⟩
          have z4 := Lib.hid (z3.out.trans (hc4.mono z3.out.size))
          clear hc4
          go_wp2_with fail
          clear hc
          refine (HS.out _ z4.out).mono ?_
          rintro r w5 ⟨ya, yc, rfl, ho, hc5⟩
          have z5 := Lib.hid (z4.out.trans (hc5.mono z4.out.size))
          have HO5 := Lib.hid ho
          clear ho hc5
          go_wp2_with fail
          go_roundw
          case rel => exact ⟨j + 1, Y, ya, yc, by omega, by congr 1; omega, rfl, Lib.hid (by rw [HY.out, HBv.out, pow_next]), HO5, HLT, Lib.hid (HB.out.trans (z5.out.mono HB.out.size))⟩
          case measure => simp [intOf]; omega
        · have hc : cmpN X Y < 0 := by rw [cmpN_lt (by omega)]; omega
          have HLt : Hid (X < 10 * Bv) := Lib.hid (by have := HY.out; omega)
          clear hlt
          have HC2 := Lib.hid (HC.out _ _ w3 z3.out HO.out)
          generalize cmpN X Y = cv at *
          go_wp2_with fail
          refine HC2.out.mono ?_
          rintro r w4 ⟨rfl, hc4⟩
          have z4 := Lib.hid (z3.out.trans (hc4.mono z3.out.size))
          clear hc4
          have B4 := Lib.hid (B2.out.trans (HB.out.mono B2.out.size |>.trans (z4.out.mono (by have := B2.out.size; have := HB.out.size; omega))))
          have R4b := Lib.hid (HRb.out.below z4.out)
          have R4x := Lib.hid (R2.out.below (HB.out.trans (z4.out.mono HB.out.size)))
          have PB : Hid (0 < Bv) := Lib.hid (by have := HLt.out; have := HL.out; have := PV.out; omega)
          clear z4 z3 HO HC HC2 HS HB R2 B2 HRb
          obtain ⟨E1, hE1⟩ : ∃ E, E = E0 - k + j := ⟨_, rfl⟩
          have HE1 := Lib.hid hE1
          have n3 : -50000 ≤ E1 := by omega
          have n4 : E1 ≤ 50000 := by omega
          rw [← hE1]
          clear hE1
          go_wp2_with fail
          clear hc
          go_loopw [5, 6, 8, 9, 10, 11] (fun s5 s6 s8 s9 _ _ wr => ∃ (i q rest : Nat) (e : Int) (aq : Option Addr) (cq : Nat) (ar : Option Addr) (cr : Nat), i ≤ 34 ∧ s9 = .int .i64 i ∧ s5 = .int .i64 e ∧ s6 = .slice ar (dg 10 rest).length cr ∧ s8 = .slice aq (dg 10 q).length cq ∧ Hid (Loop3 X Bv q rest E1 e i) ∧ -100000 ≤ e ∧ e ≤ 100000 ∧ Hid (RdC wr ar cr rest) ∧ Hid (RdC wr aq cq q) ∧ Hid (Below w4.heap.size w4 wr)) (fun _ _ _ s9 _ _ _ => 34 - (intOf s9).toNat)
          case atStart => exact ⟨0, 0, X, E1, none, 0, a, c, by omega, rfl, rfl, rfl, by rw [dg_zero]; rfl, Lib.hid ⟨fun _ => ⟨by simp, HLt.out, by simp⟩, fun h => by omega⟩, by omega, by omega, R4x, Lib.hid (RdC.zero _), Lib.hid (Below.refl _ _)⟩
          case round =>
            obtain ⟨i, q, rest, e, aq, cq, ar, cr, hi, rfl, rfl, rfl, rfl, HL3, m1, m2, HRr, HRq, HB⟩ := hrel
            by_cases hlt : i < 34
            · have HB6 : Hid (Sm 402 (10 * Bv)) := Lib.hid (by rw [Nat.mul_comm]; exact HB5.out.ten)
              have Hre : Hid (Sm 402 rest) := Lib.hid (Sm.le HB6.out (Nat.le_of_lt (HL3.out.1 hlt).2.1))
              have Hq4 : Hid (Sm 34 q) := Lib.hid ((few0 HLt.out (HL3.out.1 hlt).1).up (by omega))
              have heq : Hid (e = E1 - i) := Lib.hid (HL3.out.1 hlt).2.2
              obtain ⟨d, hd⟩ : ∃ d, d = rest / Bv := ⟨_, rfl⟩
              obtain ⟨r, hr⟩ : ∃ r, r = rest % Bv := ⟨_, rfl⟩
              obtain ⟨q1, hq1⟩ : ∃ x, x = q * 10 := ⟨_, rfl⟩
              obtain ⟨q2, hq2⟩ : ∃ x, x = q1 + d := ⟨_, rfl⟩
              obtain ⟨r1, hr1⟩ : ∃ x, x = r * 10 := ⟨_, rfl⟩
              have Hd := Lib.hid hd; have Hr := Lib.hid hr; have Hq1 := Lib.hid hq1; have Hq2 := Lib.hid hq2; have Hr1 := Lib.hid hr1
              clear hd hr hq1 hq2 hr1
              have HDV := Lib.hid (qDiv rest Bv d r Hd.out Hr.out ar ab cr cb wr (Hre.out.up (by omega)) (HB5.out.up (by omega)) PB.out HRr.out (R4b.out.below HB.out))
              have HS1 := Lib.hid (fun W' (hb : Below _ wr W') => qShift q q1 Hq1.out aq cq W' (Hq4.out.up (by omega)) (HRq.out.below hb))
              have Hds : Hid (Sm 500 d) := Lib.hid ((Sm.le Hre.out (by rw [Hd.out]; exact Nat.div_le_self _ _)).up (by omega))
              have Hrs : Hid (Sm 500 r) := Lib.hid ((Sm.le Hre.out (by rw [Hr.out]; exact Nat.mod_le _ _)).up (by omega))
              have Hqs : Hid (Sm 500 q1) := Lib.hid (Sm.up (K := 35) (by rw [Hq1.out]; exact Hq4.out.ten) (by omega))
              go_wp2_with fail
              refine HDV.out.mono ?_
              rintro r0 w5 ⟨xd, cd, xr, cr2, rfl, hod, hor, hc5⟩
              have z5 := Lib.hid hc5
              have HOd := Lib.hid hod; have HOr := Lib.hid hor
              clear hc5 hod hor
              go_wp2_with fail
              refine (HS1.out _ z5.out).mono ?_
              rintro r0 w6 ⟨xq, cq2, rfl, ho, hc6⟩
              have HA := Lib.hid (qAdd q1 d q2 Hq2.out xq xd cq2 cd w6 Hqs.out Hds.out ho (HOd.out.below hc6))
              have HOr6 := Lib.hid (HOr.out.below hc6)
              have z6 := Lib.hid (z5.out.trans (hc6.mono z5.out.size))
              clear hc6 ho
              go_wp2_with fail
              refine HA.out.mono ?_
              rintro r0 w7 ⟨xs, cs2, rfl, ho, hc7⟩
              have z7 := Lib.hid (z6.out.trans (hc7.mono z6.out.size))
              have HOq := Lib.hid ho
              have HOr7 := Lib.hid (HOr6.out.below hc7)
              clear hc7 ho HDV HS1 HA
              by_cases h33 : i < 33
              · have HS2 := Lib.hid (qShift r r1 Hr1.out xr cr2 w7 Hrs.out HOr7.out)
                go_wp2_with fail
                refine HS2.out.mono ?_
                rintro r0 w8 ⟨xt, ct, rfl, ho, hc8⟩
                have z8 := Lib.hid (z7.out.trans (hc8.mono z7.out.size))
                have HOt := Lib.hid ho
                have HOq8 := Lib.hid (HOq.out.below hc8)
                clear hc8 ho
                have m3 : -60000 ≤ e := by have := heq.out; omega
                go_wp2_with fail
                go_roundw
                case rel => exact ⟨i + 1, q2, r1, e - 1, xs, cs2, xt, ct, by omega, by go_num, rfl, rfl, rfl, Lib.hid (by rw [Hq2.out, Hq1.out, Hd.out, Hr1.out, Hr.out]; exact loop3_next HL3.out h33 PB.out), by omega, by omega, HOt, HOq8, Lib.hid (HB.out.trans (z8.out.mono HB.out.size))⟩
                case measure => simp [intOf]; omega
              · go_wp2_with fail
                go_roundw
                case rel => exact ⟨i + 1, q2, r, e, xs, cs2, xr, cr2, by omega, by go_num, rfl, rfl, rfl, Lib.hid (by rw [Hq2.out, Hq1.out, Hd.out, Hr.out]; exact loop3_last HL3.out hlt h33 PB.out), by omega, by omega, HOr7, HOq, Lib.hid (HB.out.trans (z7.out.mono HB.out.size))⟩
                case measure => simp [intOf]; omega
            · have h34 : i = 34 := by omega
              obtain ⟨p1, p2, p3⟩ := HL3.out.2 h34
              have HE3 := Lib.hid p1; have HLr := Lib.hid p2
              have HEe : Hid (e = E0 - k + j - 33) := Lib.hid (by rw [p3, HE1.out])
              have HQ4 : Hid (Sm 34 q) := Lib.hid (last_few (n := 33) HLt.out p1)
              have PQ : Hid (0 < q) := Lib.hid (last_pos HLe.out p1 p2)
              have HRS : Hid (Sm 401 rest) := Lib.hid (Sm.le HB5.out (Nat.le_of_lt p2))
              clear p1 p2 p3 HL3 h34
              obtain ⟨t, ht⟩ : ∃ t, t = rest + rest := ⟨_, rfl⟩
              have HT := Lib.hid ht
              clear ht
              have B5 := Lib.hid (B4.out.trans (HB.out.mono B4.out.size))
              have HA := Lib.hid (qAdd rest rest t HT.out ar ar cr cr wr (HRS.out.up (by omega)) (HRS.out.up (by omega)) HRr.out HRr.out)
              have HTs : Hid (Sm 500 t) := Lib.hid (Sm.up (K := 402) (by rw [HT.out]; exact HRS.out.two) (by omega))
              go_wp2_with fail
              refine HA.out.mono ?_
              rintro r0 w5 ⟨xt, ct, rfl, ho, hc5⟩
              have HC := Lib.hid (qCmp t Bv xt ab ct cb w5 HTs.out (HB5.out.up (by omega)) ho (R4b.out.below (HB.out.trans (hc5.mono HB.out.size))))
              have z5 := Lib.hid hc5
              clear hc5 ho
              rcases Nat.lt_trichotomy t Bv with ht | ht | ht
              · have HUP : Hid (¬ (Bv < rest + rest ∨ (rest + rest = Bv ∧ q % 2 = 1))) := Lib.hid (by have := HT.out; omega)
                rw [cmpN_lt ht] at HC
                clear ht
                go_wp2_with fail
                refine HC.out.mono ?_
                rintro r0 w6 ⟨rfl, hc6⟩
                have z6 := z5.out.trans (hc6.mono z5.out.size)
                have B6 := Lib.hid (B5.out.trans (z6.mono B5.out.size))
                have R6q := Lib.hid (HRq.out.below z6)
                clear hc6 z6 z5 HC HA B5 HRq HRr HB
                have hMk := Make_any (!(s1 == s2)) aq cq q e w6 (Nat.le_trans (Sm.len (HQ4.out.up (by omega) : Sm 500 q)) (by omega)) (by omega) (by omega) (R6q.out)
                rw [quot_end PU.out PV.out HX.out HBv.out HLe.out HLt.out HE3.out HLr.out HEe.out (by rw [if_neg HUP.out]) (!(s1 == s2))] at hMk
                have HMk := Lib.hid hMk
                clear hMk
                have X_x' := Qx.below X_x B6.out
                have X_y' := Qx.below X_y B6.out
                obtain ⟨k0, k1, k2⟩ := X_x'.out
                obtain ⟨k3, k4, k5⟩ := X_y'.out
                go_wp2_with fail
                clear k0 k1 k2 k3 k4 k5
                refine HMk.out.mono ?_
                rintro r wm ⟨xm, cm, rfl, hom, hcm⟩
                have bm := Lib.hid (B6.out.trans (hcm.mono B6.out.size))
                have X_r' := Qx.below X_r bm.out
                have F_r' := Qf.below F_r (Qx.lt X_r) bm.out
                have bw := Lib.hid (B1.out.trans (bm.out.mono B1.out.size))
                have Hom := Lib.hid hom
                clear hcm bm hom
                obtain ⟨k0, k1, k2⟩ := X_r'.out
                have kf := F_r'.out
                unfold Qf at kf
                go_wp2
                refine bodyPost_ret (v := .agg #[.bool (pl (!(s1 == s2)) (lqV u v (lqE u v)) (E0 + lqE u v)).neg, .slice xm (dg 10 (pl (!(s1 == s2)) (lqV u v (lqE u v)) (E0 + lqE u v)).m).length cm, .int .i64 (pl (!(s1 == s2)) (lqV u v (lqE u v)) (E0 + lqE u v)).e]) (by simp [results, Tryz.results39, go_sem, k0, k1, k2]) rfl ?_
                have hEE := HE.out
                subst hEE
                exact ⟨xm, cm, rfl, RdC.box Hom.out X_r' (by decide) _ _ _, Below.box bw.out (g := w.heap.size + 1 + 1) (by omega) _ _ _⟩
              · have hcz : cmpN t Bv = 0 := cmpN_eq.2 ht
                rw [hcz] at HC
                have HTB := Lib.hid ht
                clear ht hcz
                by_cases hpar : q % 2 = 1
                · have HUP : Hid (Bv < rest + rest ∨ (rest + rest = Bv ∧ q % 2 = 1)) := Lib.hid (.inr ⟨by rw [← HT.out]; exact HTB.out, hpar⟩)
                  have HPAR := Lib.hid hpar
                  clear hpar
                  go_wp2_with fail
                  refine HC.out.mono ?_
                  rintro r0 w6 ⟨rfl, hc6⟩
                  have z6 := z5.out.trans (hc6.mono z5.out.size)
                  have B6 := Lib.hid (B5.out.trans (z6.mono B5.out.size))
                  have R6q := Lib.hid (HRq.out.below z6)
                  clear hc6 z6 z5 HC HA B5 HRq HRr HB
                  obtain ⟨bq, oq, d0, hd, HD, hcell⟩ := Rd.byte R6q.out.1 0 (dg_some PQ.out)
                  have hd0 := HD.out
                  rw [first_digit PQ.out] at hd0
                  rw [Nat.add_zero] at hcell
                  have hql := dg_some PQ.out
                  have hpp : ((d0 : Int) % 2 == 1) = true := by have := HPAR.out; rw [beq_iff_eq]; omega
                  subst hd
                  clear hd0
                  obtain ⟨Q, hQ⟩ : ∃ Q, Q = q + 1 := ⟨_, rfl⟩
                  have HQQ := Lib.hid hQ
                  clear hQ
                  have HON := Lib.hid (fun W' => one_any W')
                  have HAD := Lib.hid (fun a' c' W' (h1 : Below _ w6 W') (h2 : RdC W' a' c' 1) => qAdd q 1 Q HQQ.out (some ⟨bq, oq, none⟩) a' cq c' W' (HQ4.out.up (by omega)) (Sm.up (K := 1) (show (1 : Nat) < 10 ^ 1 by omega) (by omega)) (R6q.out.below h1) h2)
                  go_wp2_with fail
                  refine (HON.out _).mono ?_
                  rintro r w7 ⟨xo, co, rfl, ho, hc7⟩
                  have z7 := Lib.hid hc7
                  have HO7 := Lib.hid ho
                  clear ho hc7
                  go_wp2_with fail
                  refine (HAD.out _ _ _ z7.out HO7.out).mono ?_
                  rintro r w8 ⟨xu, cu, rfl, ho, hc8⟩
                  have B8 := Lib.hid (B6.out.trans (z7.out.mono B6.out.size |>.trans (hc8.mono (by have := B6.out.size; have := z7.out.size; omega))))
                  have HRu := Lib.hid ho
                  clear ho hc8 HON HAD z7 HO7
                  have hMk := Make_any (!(s1 == s2)) xu cu Q e w8 (Nat.le_trans (Sm.len (Sm.up (K := 35) (Sm.le (Sm.ten HQ4.out) (by rw [HQQ.out]; have := PQ.out; omega)) (by omega) : Sm 500 Q)) (by omega)) (by omega) (by omega) HRu.out
                  rw [quot_end PU.out PV.out HX.out HBv.out HLe.out HLt.out HE3.out HLr.out HEe.out (by rw [HQQ.out, if_pos HUP.out]) (!(s1 == s2))] at hMk
                  have HMk := Lib.hid hMk
                  clear hMk
                  have X_x' := Qx.below X_x B8.out
                  have X_y' := Qx.below X_y B8.out
                  obtain ⟨k0, k1, k2⟩ := X_x'.out
                  obtain ⟨k3, k4, k5⟩ := X_y'.out
                  go_wp2_with fail
                  clear k0 k1 k2 k3 k4 k5
                  refine HMk.out.mono ?_
                  rintro r wm ⟨xm, cm, rfl, hom, hcm⟩
                  have bm := Lib.hid (B8.out.trans (hcm.mono B8.out.size))
                  have X_r' := Qx.below X_r bm.out
                  have F_r' := Qf.below F_r (Qx.lt X_r) bm.out
                  have bw := Lib.hid (B1.out.trans (bm.out.mono B1.out.size))
                  have Hom := Lib.hid hom
                  clear hcm bm hom
                  obtain ⟨k0, k1, k2⟩ := X_r'.out
                  have kf := F_r'.out
                  unfold Qf at kf
                  go_wp2
                  refine bodyPost_ret (v := .agg #[.bool (pl (!(s1 == s2)) (lqV u v (lqE u v)) (E0 + lqE u v)).neg, .slice xm (dg 10 (pl (!(s1 == s2)) (lqV u v (lqE u v)) (E0 + lqE u v)).m).length cm, .int .i64 (pl (!(s1 == s2)) (lqV u v (lqE u v)) (E0 + lqE u v)).e]) (by simp [results, Tryz.results39, go_sem, k0, k1, k2]) rfl ?_
                  have hEE := HE.out
                  subst hEE
                  exact ⟨xm, cm, rfl, RdC.box Hom.out X_r' (by decide) _ _ _, Below.box bw.out (g := w.heap.size + 1 + 1) (by omega) _ _ _⟩
                · have HUP : Hid (¬ (Bv < rest + rest ∨ (rest + rest = Bv ∧ q % 2 = 1))) := Lib.hid (by have := HT.out; have := HTB.out; omega)
                  have HPAR := Lib.hid hpar
                  clear hpar
                  go_wp2_with fail
                  refine HC.out.mono ?_
                  rintro r0 w6 ⟨rfl, hc6⟩
                  have z6 := z5.out.trans (hc6.mono z5.out.size)
                  have B6 := Lib.hid (B5.out.trans (z6.mono B5.out.size))
                  have R6q := Lib.hid (HRq.out.below z6)
                  clear hc6 z6 z5 HC HA B5 HRq HRr HB
                  obtain ⟨bq, oq, d0, hd, HD, hcell⟩ := Rd.byte R6q.out.1 0 (dg_some PQ.out)
                  have hd0 := HD.out
                  rw [first_digit PQ.out] at hd0
                  rw [Nat.add_zero] at hcell
                  have hql := dg_some PQ.out
                  have hpp : ((d0 : Int) % 2 == 1) = false := by have := HPAR.out; rw [beq_eq_false_iff_ne]; omega
                  subst hd
                  clear hd0
                  have hMk := Make_any (!(s1 == s2)) (some ⟨bq, oq, none⟩) cq q e w6 (Nat.le_trans (Sm.len (HQ4.out.up (by omega) : Sm 500 q)) (by omega)) (by omega) (by omega) (R6q.out)
                  rw [quot_end PU.out PV.out HX.out HBv.out HLe.out HLt.out HE3.out HLr.out HEe.out (by rw [if_neg HUP.out]) (!(s1 == s2))] at hMk
                  have HMk := Lib.hid hMk
                  clear hMk
                  have X_x' := Qx.below X_x B6.out
                  have X_y' := Qx.below X_y B6.out
                  obtain ⟨k0, k1, k2⟩ := X_x'.out
                  obtain ⟨k3, k4, k5⟩ := X_y'.out
                  go_wp2_with fail
                  clear k0 k1 k2 k3 k4 k5
                  refine HMk.out.mono ?_
                  rintro r wm ⟨xm, cm, rfl, hom, hcm⟩
                  have bm := Lib.hid (B6.out.trans (hcm.mono B6.out.size))
                  have X_r' := Qx.below X_r bm.out
                  have F_r' := Qf.below F_r (Qx.lt X_r) bm.out
                  have bw := Lib.hid (B1.out.trans (bm.out.mono B1.out.size))
                  have Hom := Lib.hid hom
                  clear hcm bm hom
                  obtain ⟨k0, k1, k2⟩ := X_r'.out
                  have kf := F_r'.out
                  unfold Qf at kf
                  go_wp2
                  refine bodyPost_ret (v := .agg #[.bool (pl (!(s1 == s2)) (lqV u v (lqE u v)) (E0 + lqE u v)).neg, .slice xm (dg 10 (pl (!(s1 == s2)) (lqV u v (lqE u v)) (E0 + lqE u v)).m).length cm, .int .i64 (pl (!(s1 == s2)) (lqV u v (lqE u v)) (E0 + lqE u v)).e]) (by simp [results, Tryz.results39, go_sem, k0, k1, k2]) rfl ?_
                  have hEE := HE.out
                  subst hEE
                  exact ⟨xm, cm, rfl, RdC.box Hom.out X_r' (by decide) _ _ _, Below.box bw.out (g := w.heap.size + 1 + 1) (by omega) _ _ _⟩
              · have HUP : Hid (Bv < rest + rest ∨ (rest + rest = Bv ∧ q % 2 = 1)) := Lib.hid (.inl (by have := HT.out; omega))
                rw [cmpN_gt ht] at HC
                clear ht
                go_wp2_with fail
                refine HC.out.mono ?_
                rintro r0 w6 ⟨rfl, hc6⟩
                have z6 := z5.out.trans (hc6.mono z5.out.size)
                have B6 := Lib.hid (B5.out.trans (z6.mono B5.out.size))
                have R6q := Lib.hid (HRq.out.below z6)
                clear hc6 z6 z5 HC HA B5 HRq HRr HB
                obtain ⟨Q, hQ⟩ : ∃ Q, Q = q + 1 := ⟨_, rfl⟩
                have HQQ := Lib.hid hQ
                clear hQ
                have HON := Lib.hid (fun W' => one_any W')
                have HAD := Lib.hid (fun a' c' W' (h1 : Below _ w6 W') (h2 : RdC W' a' c' 1) => qAdd q 1 Q HQQ.out aq a' cq c' W' (HQ4.out.up (by omega)) (Sm.up (K := 1) (show (1 : Nat) < 10 ^ 1 by omega) (by omega)) (R6q.out.below h1) h2)
                go_wp2_with fail
                refine (HON.out _).mono ?_
                rintro r w7 ⟨xo, co, rfl, ho, hc7⟩
                have z7 := Lib.hid hc7
                have HO7 := Lib.hid ho
                clear ho hc7
                go_wp2_with fail
                refine (HAD.out _ _ _ z7.out HO7.out).mono ?_
                rintro r w8 ⟨xu, cu, rfl, ho, hc8⟩
                have B8 := Lib.hid (B6.out.trans (z7.out.mono B6.out.size |>.trans (hc8.mono (by have := B6.out.size; have := z7.out.size; omega))))
                have HRu := Lib.hid ho
                clear ho hc8 HON HAD z7 HO7
                have hMk := Make_any (!(s1 == s2)) xu cu Q e w8 (Nat.le_trans (Sm.len (Sm.up (K := 35) (Sm.le (Sm.ten HQ4.out) (by rw [HQQ.out]; have := PQ.out; omega)) (by omega) : Sm 500 Q)) (by omega)) (by omega) (by omega) HRu.out
                rw [quot_end PU.out PV.out HX.out HBv.out HLe.out HLt.out HE3.out HLr.out HEe.out (by rw [HQQ.out, if_pos HUP.out]) (!(s1 == s2))] at hMk
                have HMk := Lib.hid hMk
                clear hMk
                have X_x' := Qx.below X_x B8.out
                have X_y' := Qx.below X_y B8.out
                obtain ⟨k0, k1, k2⟩ := X_x'.out
                obtain ⟨k3, k4, k5⟩ := X_y'.out
                go_wp2_with fail
                clear k0 k1 k2 k3 k4 k5
                refine HMk.out.mono ?_
                rintro r wm ⟨xm, cm, rfl, hom, hcm⟩
                have bm := Lib.hid (B8.out.trans (hcm.mono B8.out.size))
                have X_r' := Qx.below X_r bm.out
                have F_r' := Qf.below F_r (Qx.lt X_r) bm.out
                have bw := Lib.hid (B1.out.trans (bm.out.mono B1.out.size))
                have Hom := Lib.hid hom
                clear hcm bm hom
                obtain ⟨k0, k1, k2⟩ := X_r'.out
                have kf := F_r'.out
                unfold Qf at kf
                go_wp2
                refine bodyPost_ret (v := .agg #[.bool (pl (!(s1 == s2)) (lqV u v (lqE u v)) (E0 + lqE u v)).neg, .slice xm (dg 10 (pl (!(s1 == s2)) (lqV u v (lqE u v)) (E0 + lqE u v)).m).length cm, .int .i64 (pl (!(s1 == s2)) (lqV u v (lqE u v)) (E0 + lqE u v)).e]) (by simp [results, Tryz.results39, go_sem, k0, k1, k2]) rfl ?_
                have hEE := HE.out
                subst hEE
                exact ⟨xm, cm, rfl, RdC.box Hom.out X_r' (by decide) _ _ _, Below.box bw.out (g := w.heap.size + 1 + 1) (by omega) _ _ _⟩
end Go.Proofs.YtimfpgpomafflaaGreatDoor

/- The document's Div. -/
namespace Go.Proofs.YtimfpgpomafflaaGreatDoor
open Go.RowKit LM

theorem pl_dl' (s : Bool) (v : Nat) (e : Int) : dl (pl s v e).m ≤ dl v := by
  unfold pl
  by_cases h : v = 0
  · rw [if_pos h]; show dl 0 ≤ _; unfold dl; rw [dg_zero]; exact Nat.zero_le _
  · rw [if_neg h]
    exact dl_mono (Nat.div_le_self _ _)
theorem pl_eb (s : Bool) (v : Nat) (e : Int) (hv : v < 10 ^ 35) (h1 : -30000 ≤ e) (h2 : e ≤ 30000) : -1000000 ≤ (pl s v e).e ∧ (pl s v e).e ≤ 1000000 := by
  refine pl_e h1 h2 ?_
  rcases Nat.eq_zero_or_pos v with h | h
  · rw [h, tz_zero]; omega
  · have h3 := tz_len h
    have h4 : (dg 10 v).length ≤ 35 := dl_lt hv
    omega
set_option maxHeartbeats 8000000 in
set_option maxRecDepth 20000 in
theorem RDiv3_no (s1 s2 : Bool) (a1 a2 : Option Addr) (c1 c2 : Nat) (l1 l2 : List Nat) (e1 e2 : Int) (w : World) (h1 : l1.length ≤ 9223372036854775807) (h2 : l2.length ≤ 9223372036854775807) (hlo1 : Lo 4294967296 l1) (hlo2 : Lo 4294967296 l2) (hr1 : Rd w .u32 a1 l1) (hr2 : Rd w .u32 a2 l2) (h0 : ¬ okP (normA l1.length s1 (vl 1000000000 l1) e1) (normA l2.length s2 (vl 1000000000 l2) e2)) :
    Calls Tryz.prog 12 #[.agg #[.bool s1, .slice a1 l1.length c1, .int .i64 e1], .agg #[.bool s2, .slice a2 l2.length c2, .int .i64 e2]] w (ResY (divA (normA l1.length s1 (vl 1000000000 l1) e1) (normA l2.length s2 (vl 1000000000 l2) e2)) w) := by
  have hP := fun W hb => Two_any s1 s2 a1 a2 c1 c2 l1 l2 e1 e2 W h1 h2 hlo1 hlo2 (hr1.below' (w' := W) hb (Nat.le_refl _)) (hr2.below' hb (Nat.le_refl _))
  have hiA := normA_in l1.length s1 (vl 1000000000 l1) e1
  have hiB := normA_in l2.length s2 (vl 1000000000 l2) e2
  generalize normA l1.length s1 (vl 1000000000 l1) e1 = A at *
  generalize normA l2.length s2 (vl 1000000000 l2) e2 = B at *
  have hres : divA A B = if okP A B then divV A.p B.p else ⟨pairE A B, zP⟩ := rfl
  generalize divA A B = R at *
  rw [if_neg h0] at hres
  have t0 : (((pairE A B : Nat) : Int) != 0) = true := by have := pairE_bad h0; simp; omega
  have HP := Lib.hid hP; have HR := Lib.hid hres
  unfold ResTw at HP
  clear hP hres hiA hiB hr1 hr2 hlo1 hlo2 h0
  generalize pairE A B = pe at *
  go_enter Tryz.func12, Tryz.ntmps12
  have b1 := ((((Below.refl w.heap.size w).alloc (Nat.le_refl _) (.cells #[.bool s1, .slice a1 l1.length c1, .int .i64 e1] 24)).alloc (by simp) (.cells #[.bool s2, .slice a2 l2.length c2, .int .i64 e2] 24)).alloc (by simp; omega) (.cells #[.bool false, .slice none 0 0, .int .i64 0] 24))
  have X_a := (Qx.below (Qx.below (Qx.new w (.bool s1) (.slice a1 l1.length c1) (.int .i64 e1) 24) ((Below.refl _ _).alloc (Nat.le_refl _) (.cells #[.bool s2, .slice a2 l2.length c2, .int .i64 e2] 24))) ((Below.refl _ _).alloc (Nat.le_refl _) (.cells #[.bool false, .slice none 0 0, .int .i64 0] 24)))
  have F_a := (Qf.below (Qf.below (Qf.new w (.bool s1) (.slice a1 l1.length c1) (.int .i64 e1) 24) (Qx.lt (Qx.new w (.bool s1) (.slice a1 l1.length c1) (.int .i64 e1) 24)) ((Below.refl _ _).alloc (Nat.le_refl _) (.cells #[.bool s2, .slice a2 l2.length c2, .int .i64 e2] 24))) (Qx.lt (Qx.below (Qx.new w (.bool s1) (.slice a1 l1.length c1) (.int .i64 e1) 24) ((Below.refl _ _).alloc (Nat.le_refl _) (.cells #[.bool s2, .slice a2 l2.length c2, .int .i64 e2] 24)))) ((Below.refl _ _).alloc (Nat.le_refl _) (.cells #[.bool false, .slice none 0 0, .int .i64 0] 24)))
  have X_b := (Qx.below (Qx.new (w.alloc (.cells #[.bool s1, .slice a1 l1.length c1, .int .i64 e1] 24)) (.bool s2) (.slice a2 l2.length c2) (.int .i64 e2) 24) ((Below.refl _ _).alloc (Nat.le_refl _) (.cells #[.bool false, .slice none 0 0, .int .i64 0] 24)))
  have F_b := (Qf.below (Qf.new (w.alloc (.cells #[.bool s1, .slice a1 l1.length c1, .int .i64 e1] 24)) (.bool s2) (.slice a2 l2.length c2) (.int .i64 e2) 24) (Qx.lt (Qx.new (w.alloc (.cells #[.bool s1, .slice a1 l1.length c1, .int .i64 e1] 24)) (.bool s2) (.slice a2 l2.length c2) (.int .i64 e2) 24)) ((Below.refl _ _).alloc (Nat.le_refl _) (.cells #[.bool false, .slice none 0 0, .int .i64 0] 24)))
  have z : (w.alloc (.cells #[.bool s1, .slice a1 l1.length c1, .int .i64 e1] 24)).heap.size = w.heap.size + 1 := by simp
  rw [z] at X_b F_b
  clear z
  have X_r := (Qx.new ((w.alloc (.cells #[.bool s1, .slice a1 l1.length c1, .int .i64 e1] 24)).alloc (.cells #[.bool s2, .slice a2 l2.length c2, .int .i64 e2] 24)) (.bool false) (.slice none 0 0) (.int .i64 0) 24)
  have F_r := (Qf.new ((w.alloc (.cells #[.bool s1, .slice a1 l1.length c1, .int .i64 e1] 24)).alloc (.cells #[.bool s2, .slice a2 l2.length c2, .int .i64 e2] 24)) (.bool false) (.slice none 0 0) (.int .i64 0) 24)
  have z : ((w.alloc (.cells #[.bool s1, .slice a1 l1.length c1, .int .i64 e1] 24)).alloc (.cells #[.bool s2, .slice a2 l2.length c2, .int .i64 e2] 24)).heap.size = w.heap.size + 1 + 1 := by simp
  rw [z] at X_r F_r
  clear z
  obtain ⟨ka0, ka1, ka2⟩ := X_a.out
  obtain ⟨kb0, kb1, kb2⟩ := X_b.out
  go_wp2_with fail
  clear ka0 ka1 ka2 kb0 kb1 kb2
  refine (HP.out _ b1).mono ?_
  rintro r w2 ⟨xp, yp, xq, yq, rfl, ho1, ho2, hc⟩
  have b2 := b1.trans (hc.mono b1.size)
  replace F_a := Qf.below F_a (Qx.lt X_a) hc
  replace X_a := Qx.below X_a hc
  replace F_b := Qf.below F_b (Qx.lt X_b) hc
  replace X_b := Qx.below X_b hc
  replace F_r := Qf.below F_r (Qx.lt X_r) hc
  replace X_r := Qx.below X_r hc
  clear hc b1
  have R_p := Lib.hid ho1
  have R_q := Lib.hid ho2
  clear ho1 ho2
  clear X_a F_a
  clear X_b F_b
  have z_x := b2.size
  have hd := (Below.refl w2.heap.size w2).alloc (Nat.le_refl _) (.cells #[.bool A.p.neg, .slice xp (dg 10 A.p.m).length yp, .int .i64 A.p.e] 53)
  have b3 := b2.trans (hd.mono b2.size)
  have l_r_x := Qx.lt X_r
  have m_r_x := not_eq_lt l_r_x
  have m_x_r := not_eq_gt l_r_x
  clear l_r_x
  replace F_r := Qf.below F_r (Qx.lt X_r) hd
  replace X_r := Qx.below X_r hd
  replace R_p := Lib.hid (R_p.out.below hd)
  replace R_q := Lib.hid (R_q.out.below hd)
  have X_x := Qx.new w2 (.bool A.p.neg) (.slice xp (dg 10 A.p.m).length yp) (.int .i64 A.p.e) 53
  have F_x := Qf.new w2 (.bool A.p.neg) (.slice xp (dg 10 A.p.m).length yp) (.int .i64 A.p.e) 53
  clear hd b2
  have z_y := b3.size
  have hd := (Below.refl (w2.alloc (.cells #[.bool A.p.neg, .slice xp (dg 10 A.p.m).length yp, .int .i64 A.p.e] 53)).heap.size (w2.alloc (.cells #[.bool A.p.neg, .slice xp (dg 10 A.p.m).length yp, .int .i64 A.p.e] 53))).alloc (Nat.le_refl _) (.cells #[.bool B.p.neg, .slice xq (dg 10 B.p.m).length yq, .int .i64 B.p.e] 53)
  have b4 := b3.trans (hd.mono b3.size)
  have l_r_y := Qx.lt X_r
  have m_r_y := not_eq_lt l_r_y
  have m_y_r := not_eq_gt l_r_y
  clear l_r_y
  have l_x_y := Qx.lt X_x
  have m_x_y := not_eq_lt l_x_y
  have m_y_x := not_eq_gt l_x_y
  clear l_x_y
  replace F_r := Qf.below F_r (Qx.lt X_r) hd
  replace X_r := Qx.below X_r hd
  replace F_x := Qf.below F_x (Qx.lt X_x) hd
  replace X_x := Qx.below X_x hd
  replace R_p := Lib.hid (R_p.out.below hd)
  replace R_q := Lib.hid (R_q.out.below hd)
  have X_y := Qx.new (w2.alloc (.cells #[.bool A.p.neg, .slice xp (dg 10 A.p.m).length yp, .int .i64 A.p.e] 53)) (.bool B.p.neg) (.slice xq (dg 10 B.p.m).length yq) (.int .i64 B.p.e) 53
  have F_y := Qf.new (w2.alloc (.cells #[.bool A.p.neg, .slice xp (dg 10 A.p.m).length yp, .int .i64 A.p.e] 53)) (.bool B.p.neg) (.slice xq (dg 10 B.p.m).length yq) (.int .i64 B.p.e) 53
  clear hd b3
  have z : (w2.alloc (.cells #[.bool A.p.neg, .slice xp (dg 10 A.p.m).length yp, .int .i64 A.p.e] 53)).heap.size = w2.heap.size + 1 := by simp
  rw [z] at X_y F_y m_r_y m_y_r m_x_y m_y_x
  clear z
  obtain ⟨kr0, kr1, kr2⟩ := X_r.out
  have kf_r := F_r.out
  unfold Qf at kf_r
  go_wp2
  refine bodyPost_ret (v := .tuple #[.agg #[.bool false, .slice none 0 0, .int .i64 0], .int .i64 (pe : Nat)]) (by simp [results, Tryz.results12, go_sem, kr0, kr1, kr2]) rfl ?_
  exact resY_err HR.out (Below.box b4 (g := w.heap.size + 1 + 1) (by omega) _ _ _)
set_option maxHeartbeats 16000000 in
set_option maxRecDepth 20000 in
theorem RDiv3_ok (s1 s2 : Bool) (a1 a2 : Option Addr) (c1 c2 : Nat) (l1 l2 : List Nat) (e1 e2 : Int) (w : World) (h1 : l1.length ≤ 9223372036854775807) (h2 : l2.length ≤ 9223372036854775807) (hlo1 : Lo 4294967296 l1) (hlo2 : Lo 4294967296 l2) (hr1 : Rd w .u32 a1 l1) (hr2 : Rd w .u32 a2 l2) (h0 : okP (normA l1.length s1 (vl 1000000000 l1) e1) (normA l2.length s2 (vl 1000000000 l2) e2)) :
    Calls Tryz.prog 12 #[.agg #[.bool s1, .slice a1 l1.length c1, .int .i64 e1], .agg #[.bool s2, .slice a2 l2.length c2, .int .i64 e2]] w (ResY (divA (normA l1.length s1 (vl 1000000000 l1) e1) (normA l2.length s2 (vl 1000000000 l2) e2)) w) := by
  have hP := fun W hb => Two_any s1 s2 a1 a2 c1 c2 l1 l2 e1 e2 W h1 h2 hlo1 hlo2 (hr1.below' (w' := W) hb (Nat.le_refl _)) (hr2.below' hb (Nat.le_refl _))
  have hiA := normA_in l1.length s1 (vl 1000000000 l1) e1
  have hiB := normA_in l2.length s2 (vl 1000000000 l2) e2
  generalize normA l1.length s1 (vl 1000000000 l1) e1 = A at *
  generalize normA l2.length s2 (vl 1000000000 l2) e2 = B at *
  have hres : divA A B = if okP A B then divV A.p B.p else ⟨pairE A B, zP⟩ := rfl
  generalize divA A B = R at *
  rw [if_pos h0] at hres
  have hpe : pairE A B = 0 := pairE_ok h0.1 h0.2
  unfold ResTw at hP
  rw [hpe] at hP
  have HP := Lib.hid hP; have HR := Lib.hid hres; have HIA := Lib.hid hiA; have HIB := Lib.hid hiB
  clear hP hpe h0 hres hiA hiB hr1 hr2 hlo1 hlo2
  go_enter Tryz.func12, Tryz.ntmps12
  have b1 := ((((Below.refl w.heap.size w).alloc (Nat.le_refl _) (.cells #[.bool s1, .slice a1 l1.length c1, .int .i64 e1] 24)).alloc (by simp) (.cells #[.bool s2, .slice a2 l2.length c2, .int .i64 e2] 24)).alloc (by simp; omega) (.cells #[.bool false, .slice none 0 0, .int .i64 0] 24))
  have X_a := (Qx.below (Qx.below (Qx.new w (.bool s1) (.slice a1 l1.length c1) (.int .i64 e1) 24) ((Below.refl _ _).alloc (Nat.le_refl _) (.cells #[.bool s2, .slice a2 l2.length c2, .int .i64 e2] 24))) ((Below.refl _ _).alloc (Nat.le_refl _) (.cells #[.bool false, .slice none 0 0, .int .i64 0] 24)))
  have F_a := (Qf.below (Qf.below (Qf.new w (.bool s1) (.slice a1 l1.length c1) (.int .i64 e1) 24) (Qx.lt (Qx.new w (.bool s1) (.slice a1 l1.length c1) (.int .i64 e1) 24)) ((Below.refl _ _).alloc (Nat.le_refl _) (.cells #[.bool s2, .slice a2 l2.length c2, .int .i64 e2] 24))) (Qx.lt (Qx.below (Qx.new w (.bool s1) (.slice a1 l1.length c1) (.int .i64 e1) 24) ((Below.refl _ _).alloc (Nat.le_refl _) (.cells #[.bool s2, .slice a2 l2.length c2, .int .i64 e2] 24)))) ((Below.refl _ _).alloc (Nat.le_refl _) (.cells #[.bool false, .slice none 0 0, .int .i64 0] 24)))
  have X_b := (Qx.below (Qx.new (w.alloc (.cells #[.bool s1, .slice a1 l1.length c1, .int .i64 e1] 24)) (.bool s2) (.slice a2 l2.length c2) (.int .i64 e2) 24) ((Below.refl _ _).alloc (Nat.le_refl _) (.cells #[.bool false, .slice none 0 0, .int .i64 0] 24)))
  have F_b := (Qf.below (Qf.new (w.alloc (.cells #[.bool s1, .slice a1 l1.length c1, .int .i64 e1] 24)) (.bool s2) (.slice a2 l2.length c2) (.int .i64 e2) 24) (Qx.lt (Qx.new (w.alloc (.cells #[.bool s1, .slice a1 l1.length c1, .int .i64 e1] 24)) (.bool s2) (.slice a2 l2.length c2) (.int .i64 e2) 24)) ((Below.refl _ _).alloc (Nat.le_refl _) (.cells #[.bool false, .slice none 0 0, .int .i64 0] 24)))
  have z : (w.alloc (.cells #[.bool s1, .slice a1 l1.length c1, .int .i64 e1] 24)).heap.size = w.heap.size + 1 := by simp
  rw [z] at X_b F_b
  clear z
  have X_r := (Qx.new ((w.alloc (.cells #[.bool s1, .slice a1 l1.length c1, .int .i64 e1] 24)).alloc (.cells #[.bool s2, .slice a2 l2.length c2, .int .i64 e2] 24)) (.bool false) (.slice none 0 0) (.int .i64 0) 24)
  have F_r := (Qf.new ((w.alloc (.cells #[.bool s1, .slice a1 l1.length c1, .int .i64 e1] 24)).alloc (.cells #[.bool s2, .slice a2 l2.length c2, .int .i64 e2] 24)) (.bool false) (.slice none 0 0) (.int .i64 0) 24)
  have z : ((w.alloc (.cells #[.bool s1, .slice a1 l1.length c1, .int .i64 e1] 24)).alloc (.cells #[.bool s2, .slice a2 l2.length c2, .int .i64 e2] 24)).heap.size = w.heap.size + 1 + 1 := by simp
  rw [z] at X_r F_r
  clear z
  obtain ⟨ka0, ka1, ka2⟩ := X_a.out
  obtain ⟨kb0, kb1, kb2⟩ := X_b.out
  go_wp2_with fail
  clear ka0 ka1 ka2 kb0 kb1 kb2
  refine (HP.out _ b1).mono ?_
  rintro r w2 ⟨xp, yp, xq, yq, rfl, ho1, ho2, hc⟩
  have b2 := b1.trans (hc.mono b1.size)
  replace F_a := Qf.below F_a (Qx.lt X_a) hc
  replace X_a := Qx.below X_a hc
  replace F_b := Qf.below F_b (Qx.lt X_b) hc
  replace X_b := Qx.below X_b hc
  replace F_r := Qf.below F_r (Qx.lt X_r) hc
  replace X_r := Qx.below X_r hc
  clear hc b1
  have R_p := Lib.hid ho1
  have R_q := Lib.hid ho2
  clear ho1 ho2
  clear X_a F_a
  clear X_b F_b
  have z_x := b2.size
  have hd := (Below.refl w2.heap.size w2).alloc (Nat.le_refl _) (.cells #[.bool A.p.neg, .slice xp (dg 10 A.p.m).length yp, .int .i64 A.p.e] 53)
  have b3 := b2.trans (hd.mono b2.size)
  have l_r_x := Qx.lt X_r
  have m_r_x := not_eq_lt l_r_x
  have m_x_r := not_eq_gt l_r_x
  clear l_r_x
  replace F_r := Qf.below F_r (Qx.lt X_r) hd
  replace X_r := Qx.below X_r hd
  replace R_p := Lib.hid (R_p.out.below hd)
  replace R_q := Lib.hid (R_q.out.below hd)
  have X_x := Qx.new w2 (.bool A.p.neg) (.slice xp (dg 10 A.p.m).length yp) (.int .i64 A.p.e) 53
  have F_x := Qf.new w2 (.bool A.p.neg) (.slice xp (dg 10 A.p.m).length yp) (.int .i64 A.p.e) 53
  clear hd b2
  have z_y := b3.size
  have hd := (Below.refl (w2.alloc (.cells #[.bool A.p.neg, .slice xp (dg 10 A.p.m).length yp, .int .i64 A.p.e] 53)).heap.size (w2.alloc (.cells #[.bool A.p.neg, .slice xp (dg 10 A.p.m).length yp, .int .i64 A.p.e] 53))).alloc (Nat.le_refl _) (.cells #[.bool B.p.neg, .slice xq (dg 10 B.p.m).length yq, .int .i64 B.p.e] 53)
  have b4 := b3.trans (hd.mono b3.size)
  have l_r_y := Qx.lt X_r
  have m_r_y := not_eq_lt l_r_y
  have m_y_r := not_eq_gt l_r_y
  clear l_r_y
  have l_x_y := Qx.lt X_x
  have m_x_y := not_eq_lt l_x_y
  have m_y_x := not_eq_gt l_x_y
  clear l_x_y
  replace F_r := Qf.below F_r (Qx.lt X_r) hd
  replace X_r := Qx.below X_r hd
  replace F_x := Qf.below F_x (Qx.lt X_x) hd
  replace X_x := Qx.below X_x hd
  replace R_p := Lib.hid (R_p.out.below hd)
  replace R_q := Lib.hid (R_q.out.below hd)
  have X_y := Qx.new (w2.alloc (.cells #[.bool A.p.neg, .slice xp (dg 10 A.p.m).length yp, .int .i64 A.p.e] 53)) (.bool B.p.neg) (.slice xq (dg 10 B.p.m).length yq) (.int .i64 B.p.e) 53
  have F_y := Qf.new (w2.alloc (.cells #[.bool A.p.neg, .slice xp (dg 10 A.p.m).length yp, .int .i64 A.p.e] 53)) (.bool B.p.neg) (.slice xq (dg 10 B.p.m).length yq) (.int .i64 B.p.e) 53
  clear hd b3
  have z : (w2.alloc (.cells #[.bool A.p.neg, .slice xp (dg 10 A.p.m).length yp, .int .i64 A.p.e] 53)).heap.size = w2.heap.size + 1 := by simp
  rw [z] at X_y F_y m_r_y m_y_r m_x_y m_y_x
  clear z
  by_cases h0 : B.p.m = 0
  · have hR := HR.out
    unfold divV at hR
    rw [if_pos h0] at hR
    have HR2 := Lib.hid hR
    clear hR HR
    have t0 : (((dg 10 B.p.m).length : Int) == 0) = true := by rw [h0, dg_zero]; rfl
    clear h0
    generalize (dg 10 B.p.m).length = nB at *
    obtain ⟨ky0, ky1, ky2⟩ := X_y.out
    obtain ⟨kr0, kr1, kr2⟩ := X_r.out
    have kf_r := F_r.out
    unfold Qf at kf_r
    go_wp2
    refine bodyPost_ret (v := .tuple #[.agg #[.bool false, .slice none 0 0, .int .i64 0], .int .i64 4]) (by simp [results, Tryz.results12, go_sem, kr0, kr1, kr2]) rfl ?_
    exact resY_err HR2.out (Below.box b4 (g := w.heap.size + 1 + 1) (by omega) _ _ _)
  have t0 : (((dg 10 B.p.m).length : Int) == 0) = false := by rw [beq_eq_false_iff_ne]; have k := dl_pos (show 0 < B.p.m by omega); unfold dl at k; omega
  by_cases h3 : A.p.m = 0
  · have hR := HR.out
    unfold divV at hR
    rw [if_neg h0, if_pos h3] at hR
    have HR2 := Lib.hid hR
    clear hR HR
    have t1 : (((dg 10 A.p.m).length : Int) == 0) = true := by rw [h3, dg_zero]; rfl
    clear h3 h0
    generalize (dg 10 B.p.m).length = nB at *
    generalize (dg 10 A.p.m).length = nA at *
    obtain ⟨kx0, kx1, kx2⟩ := X_x.out
    obtain ⟨ky0, ky1, ky2⟩ := X_y.out
    obtain ⟨kr0, kr1, kr2⟩ := X_r.out
    have kf_r := F_r.out
    unfold Qf at kf_r
    go_wp2
    refine bodyPost_ret (v := .tuple #[.agg #[.bool false, .slice none 0 0, .int .i64 0], .int .i64 0]) (by simp [results, Tryz.results12, go_sem, kr0, kr1, kr2]) rfl ?_
    exact resY_err HR2.out (Below.box b4 (g := w.heap.size + 1 + 1) (by omega) _ _ _)
  · have t1 : (((dg 10 A.p.m).length : Int) == 0) = false := by rw [beq_eq_false_iff_ne]; have k := dl_pos (show 0 < A.p.m by omega); unfold dl at k; omega
    have hR := HR.out
    unfold divV at hR
    rw [if_neg h0, if_neg h3] at hR
    have bA := inR_bounds HIA.out
    have bB := inR_bounds HIB.out
    have hQ := fun W r1 r2 => Quotient_any A.p.neg B.p.neg A.p.m B.p.m A.p.e B.p.e xp xq yp yq W (by omega) (by omega) (Sm.of_dl bA.1) (Sm.of_dl bB.1) (by omega) (by omega) (by omega) (by omega) r1 r2
    obtain ⟨be1, be2⟩ := lqE_bounds bA.1 bB.1
    have hv := lqV_le (u := A.p.m) (v := B.p.m) (by omega) (by omega)
    have hd : dl (pl (!(A.p.neg == B.p.neg)) (lqV A.p.m B.p.m (lqE A.p.m B.p.m)) (A.p.e - B.p.e + lqE A.p.m B.p.m)).m ≤ 1000000 := Nat.le_trans (pl_dl' _ _ _) (Nat.le_trans (dl_lt (K := 35) (Nat.lt_of_le_of_lt hv (by decide))) (by omega))
    have hpe := pl_eb (!(A.p.neg == B.p.neg)) (lqV A.p.m B.p.m (lqE A.p.m B.p.m)) (A.p.e - B.p.e + lqE A.p.m B.p.m) (Nat.lt_of_le_of_lt hv (by decide : 10 ^ 34 < 10 ^ 35)) (by omega) (by omega)
    have hTl := fun x y W r => Tell_any (pl (!(A.p.neg == B.p.neg)) (lqV A.p.m B.p.m (lqE A.p.m B.p.m)) (A.p.e - B.p.e + lqE A.p.m B.p.m)) x y W (pl_plain _ _ _) hd hpe.1 hpe.2 r
    have e5 : tellP (pl (!(A.p.neg == B.p.neg)) (lqV A.p.m B.p.m (lqE A.p.m B.p.m)) (A.p.e - B.p.e + lqE A.p.m B.p.m)) = R := hR.symm
    rw [e5] at hTl
    generalize pl (!(A.p.neg == B.p.neg)) (lqV A.p.m B.p.m (lqE A.p.m B.p.m)) (A.p.e - B.p.e + lqE A.p.m B.p.m) = PQ at *
    have hTl := fun x y W r => (hTl x y W r).mono fun _ _ h => h.y
    have HQ := Lib.hid hQ; have HTl := Lib.hid hTl
    clear hQ hTl hR HR h0 h3 bA bB be1 be2 hv hd hpe e5
    obtain ⟨kx0, kx1, kx2⟩ := X_x.out
    obtain ⟨ky0, ky1, ky2⟩ := X_y.out
    go_wp2_with fail
    clear kx0 kx1 kx2 ky0 ky1 ky2
    refine (HQ.out _ R_p.out R_q.out).mono ?_
    rintro r w5 ⟨xk, yk, rfl, ho, hc⟩
    have b5 := b4.trans (hc.mono b4.size)
    replace F_r := Qf.below F_r (Qx.lt X_r) hc
    replace X_r := Qx.below X_r hc
    replace F_x := Qf.below F_x (Qx.lt X_x) hc
    replace X_x := Qx.below X_x hc
    replace F_y := Qf.below F_y (Qx.lt X_y) hc
    replace X_y := Qx.below X_y hc
    replace R_p := Lib.hid (R_p.out.below hc)
    replace R_q := Lib.hid (R_q.out.below hc)
    clear hc b4
    have R_k := Lib.hid ho
    clear ho
    go_wp2_with fail
    refine (HTl.out _ _ _ R_k.out).mono ?_
    rintro r w6 ⟨xn, yn, rfl, ho, hc⟩
    have b6 := b5.trans (hc.mono b5.size)
    replace F_r := Qf.below F_r (Qx.lt X_r) hc
    replace X_r := Qx.below X_r hc
    replace F_x := Qf.below F_x (Qx.lt X_x) hc
    replace X_x := Qx.below X_x hc
    replace F_y := Qf.below F_y (Qx.lt X_y) hc
    replace X_y := Qx.below X_y hc
    replace R_p := Lib.hid (R_p.out.below hc)
    replace R_q := Lib.hid (R_q.out.below hc)
    replace R_k := Lib.hid (R_k.out.below hc)
    clear hc b5
    have R_n := Lib.hid ho
    clear ho
    obtain ⟨kr0, kr1, kr2⟩ := X_r.out
    have kf_r := F_r.out
    unfold Qf at kf_r
    go_wp2
    refine bodyPost_ret (v := .tuple #[.agg #[.bool R.p.neg, .slice xn (dg 1000000000 R.p.m).length yn, .int .i64 R.p.e], .int .i64 (R.err : Nat)]) (by simp [results, Tryz.results12, go_sem, kr0, kr1, kr2]) rfl ?_
    exact ⟨xn, yn, rfl, Rd.box R_n.out X_r (by decide) _ _ _, (Below.box b6 (g := w.heap.size + 1 + 1) (by omega) _ _ _)⟩
theorem RDiv3_any (s1 s2 : Bool) (a1 a2 : Option Addr) (c1 c2 : Nat) (l1 l2 : List Nat) (e1 e2 : Int) (w : World) (h1 : l1.length ≤ 9223372036854775807) (h2 : l2.length ≤ 9223372036854775807) (hlo1 : Lo 4294967296 l1) (hlo2 : Lo 4294967296 l2) (hr1 : Rd w .u32 a1 l1) (hr2 : Rd w .u32 a2 l2) :
    Calls Tryz.prog 12 #[.agg #[.bool s1, .slice a1 l1.length c1, .int .i64 e1], .agg #[.bool s2, .slice a2 l2.length c2, .int .i64 e2]] w (ResY (divA (normA l1.length s1 (vl 1000000000 l1) e1) (normA l2.length s2 (vl 1000000000 l2) e2)) w) := by
  by_cases h0 : okP (normA l1.length s1 (vl 1000000000 l1) e1) (normA l2.length s2 (vl 1000000000 l2) e2)
  · exact RDiv3_ok s1 s2 a1 a2 c1 c2 l1 l2 e1 e2 w h1 h2 hlo1 hlo2 hr1 hr2 h0
  · exact RDiv3_no s1 s2 a1 a2 c1 c2 l1 l2 e1 e2 w h1 h2 hlo1 hlo2 hr1 hr2 h0
end Go.Proofs.YtimfpgpomafflaaGreatDoor
