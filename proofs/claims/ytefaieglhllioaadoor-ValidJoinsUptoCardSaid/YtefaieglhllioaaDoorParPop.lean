/- The ones of a word: plain mathematics. -/
import Derived.Test.YtefaieglhllioaaDoorBitMaths
namespace Go.Proofs.YtefaieglhllioaaDoor.BM

/-- how many ones below a place -/
def pc (x : BitVec 64) : Nat → Nat
  | 0 => 0
  | i + 1 => pc x i + (x.getLsbD i).toNat
def ofd (B : Nat) : List Nat → Nat
  | [] => 0
  | d :: t => d + B * ofd B t
def psum : List Nat → List Nat
  | a :: b :: t => (a + b) :: psum t
  | l => l
def msk (B : Nat) : Nat → Nat
  | 0 => 0
  | n + 1 => (B - 1) + B * (B * msk B n)
theorem and_split {k a b c d : Nat} (ha : a < 2 ^ k) (hc : c < 2 ^ k) : (a + 2 ^ k * b) &&& (c + 2 ^ k * d) = (a &&& c) + 2 ^ k * (b &&& d) := by
  have hp : 0 < 2 ^ k := Nat.two_pow_pos k
  have h1 : ((a + 2 ^ k * b) &&& (c + 2 ^ k * d)) % 2 ^ k = a &&& c := by
    rw [Nat.and_mod_two_pow, Nat.add_mul_mod_self_left, Nat.add_mul_mod_self_left, Nat.mod_eq_of_lt ha, Nat.mod_eq_of_lt hc]
  have h2 : ((a + 2 ^ k * b) &&& (c + 2 ^ k * d)) / 2 ^ k = b &&& d := by
    rw [Nat.and_div_two_pow, Nat.add_mul_div_left _ _ hp, Nat.add_mul_div_left _ _ hp, Nat.div_eq_of_lt ha, Nat.div_eq_of_lt hc, Nat.zero_add, Nat.zero_add]
  rw [← Nat.mod_add_div ((a + 2 ^ k * b) &&& (c + 2 ^ k * d)) (2 ^ k), h1, h2]
theorem and_low {k a : Nat} (ha : a < 2 ^ k) : a &&& (2 ^ k - 1) = a := by rw [Nat.and_two_pow_sub_one_eq_mod, Nat.mod_eq_of_lt ha]
theorem mlow (k : Nat) : 2 ^ k - 1 < 2 ^ k := by have := Nat.two_pow_pos k; omega
/-- the digits at even places -/
theorem and_even {k a b T m : Nat} (ha : a < 2 ^ k) (hb : b < 2 ^ k) : (a + 2 ^ k * (b + 2 ^ k * T)) &&& ((2 ^ k - 1) + 2 ^ k * (2 ^ k * m)) = a + 2 ^ k * (2 ^ k * (T &&& m)) := by
  rw [and_split ha (mlow k), and_low ha]
  have h := and_split (k := k) (a := b) (b := T) (c := 0) (d := m) hb (Nat.two_pow_pos k)
  rw [Nat.zero_add, Nat.and_zero, Nat.zero_add] at h
  rw [h]
theorem and_odd {k b T m : Nat} (hb : b < 2 ^ k) : (b + 2 ^ k * T) &&& ((2 ^ k - 1) + 2 ^ k * (2 ^ k * m)) = b + 2 ^ k * (2 ^ k * (T / 2 ^ k &&& m)) := by
  have hp : 0 < 2 ^ k := Nat.two_pow_pos k
  have e : T = T % 2 ^ k + 2 ^ k * (T / 2 ^ k) := (Nat.mod_add_div _ _).symm
  have h := and_even (k := k) (a := b) (b := T % 2 ^ k) (T := T / 2 ^ k) (m := m) hb (Nat.mod_lt _ hp)
  rw [← e] at h
  exact h
theorem pstep {k : Nat} : ∀ (n : Nat) (ds : List Nat), ds.length = 2 * n → (∀ d ∈ ds, d < 2 ^ k) → (ofd (2 ^ k) ds / 2 ^ k &&& msk (2 ^ k) n) + (ofd (2 ^ k) ds &&& msk (2 ^ k) n) = ofd (2 ^ k * 2 ^ k) (psum ds)
  | 0, ds, hl, _ => by
    obtain rfl : ds = [] := List.eq_nil_of_length_eq_zero (by omega)
    simp [ofd, psum, msk]
  | n + 1, ds, hl, hd => by
    match ds, hl, hd with
    | a :: b :: t, hl, hd =>
      have hp : 0 < 2 ^ k := Nat.two_pow_pos k
      have ha := hd a (by simp)
      have hb := hd b (by simp)
      have ih := pstep n t (by simp at hl; omega) (fun d h => hd d (by simp [h]))
      unfold msk psum ofd
      show ((a + 2 ^ k * (b + 2 ^ k * ofd (2 ^ k) t)) / 2 ^ k &&& _) + ((a + 2 ^ k * (b + 2 ^ k * ofd (2 ^ k) t)) &&& _) = _
      rw [Nat.add_mul_div_left _ _ hp, Nat.div_eq_of_lt ha, Nat.zero_add, and_even ha hb, and_odd hb, ← ih]
      generalize ofd (2 ^ k) t / 2 ^ k &&& msk (2 ^ k) n = u
      generalize ofd (2 ^ k) t &&& msk (2 ^ k) n = v
      generalize 2 ^ k = B
      rw [Nat.mul_add, Nat.mul_assoc, Nat.mul_assoc]
      omega
theorem pstep3 {k : Nat} : ∀ (n : Nat) (ds : List Nat), ds.length = 2 * n → (∀ d ∈ ds, 2 * d < 2 ^ k) → (ofd (2 ^ k) ds / 2 ^ k + ofd (2 ^ k) ds &&& msk (2 ^ k) n) = ofd (2 ^ k * 2 ^ k) (psum ds)
  | 0, ds, hl, _ => by
    obtain rfl : ds = [] := List.eq_nil_of_length_eq_zero (by omega)
    simp [ofd, psum, msk]
  | n + 1, ds, hl, hd => by
    match ds, hl, hd with
    | a :: b :: t, hl, hd =>
      have hp : 0 < 2 ^ k := Nat.two_pow_pos k
      have ha := hd a (by simp)
      have hb := hd b (by simp)
      have ih := pstep3 n t (by simp at hl; omega) (fun d h => hd d (by simp [h]))
      have hm : 2 * (ofd (2 ^ k) t % 2 ^ k) < 2 ^ k := by
        match t, hd with
        | [], _ => simpa [ofd] using hp
        | c :: s, hd =>
          have hc := hd c (by simp)
          unfold ofd
          rw [Nat.add_mul_mod_self_left, Nat.mod_eq_of_lt (by omega)]
          exact hc
      unfold msk psum ofd
      show ((a + 2 ^ k * (b + 2 ^ k * ofd (2 ^ k) t)) / 2 ^ k + (a + 2 ^ k * (b + 2 ^ k * ofd (2 ^ k) t)) &&& _) = _
      rw [Nat.add_mul_div_left _ _ hp, Nat.div_eq_of_lt (by omega : a < 2 ^ k), Nat.zero_add, ← ih]
      generalize ofd (2 ^ k) t = T at *
      have e := Nat.mod_add_div T (2 ^ k)
      generalize T / 2 ^ k = q at *
      generalize T % 2 ^ k = r at *
      have e2 : b + 2 ^ k * T + (a + 2 ^ k * (b + 2 ^ k * T)) = (a + b) + 2 ^ k * ((b + r) + 2 ^ k * (q + T)) := by
        subst e
        generalize 2 ^ k = B
        simp only [Nat.mul_add]
        omega
      rw [e2, and_even (by omega) (by omega), Nat.mul_assoc]
def digs (x : Nat) : Nat → List Nat
  | 0 => []
  | n + 1 => x % 2 :: digs (x / 2) n
theorem digs_length : ∀ (n x : Nat), (digs x n).length = n
  | 0, _ => rfl
  | n + 1, x => by simp [digs, digs_length n]
theorem digs_lt : ∀ (n x : Nat), ∀ d ∈ digs x n, d ≤ 1
  | 0, _, d, h => by simp [digs] at h
  | n + 1, x, d, h => by
    simp only [digs, List.mem_cons] at h
    rcases h with h | h
    · omega
    · exact digs_lt n _ d h
theorem digs_of : ∀ (n x : Nat), x < 2 ^ n → ofd 2 (digs x n) = x
  | 0, x, h => by simp [digs, ofd]; omega
  | n + 1, x, h => by
    unfold digs ofd
    rw [digs_of n (x / 2) (by rw [Nat.pow_succ] at h; omega)]
    omega
theorem psum_length : ∀ (n : Nat) (ds : List Nat), ds.length = 2 * n → (psum ds).length = n
  | 0, ds, h => by
    obtain rfl : ds = [] := List.eq_nil_of_length_eq_zero (by omega)
    rfl
  | n + 1, a :: b :: t, h => by simp [psum, psum_length n t (by simp at h; omega)]
theorem psum_le {m : Nat} : ∀ (n : Nat) (ds : List Nat), ds.length = 2 * n → (∀ d ∈ ds, d ≤ m) → ∀ d ∈ psum ds, d ≤ 2 * m
  | 0, ds, h, _, d, hd => by
    obtain rfl : ds = [] := List.eq_nil_of_length_eq_zero (by omega)
    simp [psum] at hd
  | n + 1, a :: b :: t, h, hm, d, hd => by
    simp only [psum, List.mem_cons] at hd
    rcases hd with hd | hd
    · have := hm a (by simp); have := hm b (by simp); omega
    · exact psum_le n t (by simp at h; omega) (fun d h => hm d (by simp [h])) d hd
theorem psum_sum : ∀ (n : Nat) (ds : List Nat), ds.length = 2 * n → (psum ds).sum = ds.sum
  | 0, ds, h => by
    obtain rfl : ds = [] := List.eq_nil_of_length_eq_zero (by omega)
    rfl
  | n + 1, a :: b :: t, h => by simp [psum, psum_sum n t (by simp at h; omega)]; omega
theorem digs_sum (x : Nat) : ∀ (n i : Nat), (digs (x / 2 ^ i) n).sum + ((List.range i).map (fun j => (x.testBit j).toNat)).sum = ((List.range (i + n)).map (fun j => (x.testBit j).toNat)).sum
  | 0, i => by simp [digs]
  | n + 1, i => by
    have ih := digs_sum x n (i + 1)
    unfold digs
    rw [Nat.div_div_eq_div_mul, ← Nat.pow_succ, List.sum_cons, show i + (n + 1) = i + 1 + n by omega, ← ih, List.range_succ, List.map_append, List.sum_append]
    have : (x / 2 ^ i) % 2 = (x.testBit i).toNat := by rw [Nat.testBit_eq_decide_div_mod_eq]; rcases Nat.mod_two_eq_zero_or_one (x / 2 ^ i) with h | h <;> simp [h]
    simp [this]; omega
theorem pc_sum (x : BitVec 64) : ∀ n, pc x n = ((List.range n).map (fun j => (x.toNat.testBit j).toNat)).sum
  | 0 => rfl
  | n + 1 => by unfold pc; rw [pc_sum x n, List.range_succ, List.map_append, List.sum_append]; simp [BitVec.getLsbD]
theorem pc_digs (x : BitVec 64) : (digs x.toNat 64).sum = pc x 64 := by
  have h := digs_sum x.toNat 64 0
  rw [pc_sum]
  simpa using h
/-- what math/bits makes of a word -/
def oc1 (x : Nat) : Nat := (x / 2 &&& 6148914691236517205) + (x &&& 6148914691236517205)
def oc2 (x : Nat) : Nat := (x / 4 &&& 3689348814741910323) + (x &&& 3689348814741910323)
def oc3 (x : Nat) : Nat := x / 16 + x &&& 1085102592571150095
theorem oc_bytes (x : Nat) (hx : x < 2 ^ 64) : ∃ ds : List Nat, ds.length = 8 ∧ (∀ d ∈ ds, d ≤ 8) ∧ ds.sum = (digs x 64).sum ∧ oc3 (oc2 (oc1 x)) = ofd 256 ds ∧ oc1 x < 2 ^ 64 ∧ oc2 (oc1 x) < 2 ^ 64 ∧ oc2 (oc1 x) / 16 + oc2 (oc1 x) < 2 ^ 64 := by
  have l0 := digs_length 64 x
  have b0 := digs_lt 64 x
  have e0 := digs_of 64 x hx
  generalize digs x 64 = d0 at *
  have e1 : oc1 x = ofd 4 (psum d0) := by
    have := pstep (k := 1) 32 d0 l0 (fun d h => by have := b0 d h; omega)
    rw [show ofd (2 ^ 1) d0 = x from e0] at this
    exact this
  have l1 := psum_length 32 d0 l0
  have b1 := psum_le 32 d0 l0 b0
  have s1 := psum_sum 32 d0 l0
  generalize psum d0 = d1 at *
  have e2 : oc2 (oc1 x) = ofd 16 (psum d1) := by
    have := pstep (k := 2) 16 d1 l1 (fun d h => by have := b1 d h; omega)
    rw [show ofd (2 ^ 2) d1 = oc1 x from e1.symm] at this
    exact this
  have l2 := psum_length 16 d1 l1
  have b2 := psum_le 16 d1 l1 b1
  have s2 := psum_sum 16 d1 l1
  generalize psum d1 = d2 at *
  have e3 : oc3 (oc2 (oc1 x)) = ofd 256 (psum d2) := by
    have := pstep3 (k := 4) 8 d2 l2 (fun d h => by have := b2 d h; omega)
    rw [show ofd (2 ^ 4) d2 = oc2 (oc1 x) from e2.symm] at this
    exact this
  have b3 := psum_le 8 d2 l2 b2
  have up : ∀ (B m : Nat) (l : List Nat), 0 < B → m < B → (∀ d ∈ l, d ≤ m) → ofd B l * (B - 1) ≤ m * (B ^ l.length - 1) := by
    intro B m l hB hm hl
    induction l with
    | nil => simp [ofd]
    | cons a t ih =>
      have h1 := ih (fun d h => hl d (by simp [h]))
      have h2 := hl a (by simp)
      unfold ofd
      rw [List.length_cons, Nat.pow_succ, Nat.add_mul, Nat.mul_assoc]
      have h3 := Nat.mul_le_mul_left B h1
      have h4 : a * (B - 1) ≤ m * (B - 1) := Nat.mul_le_mul_right _ h2
      have hq : 0 < B ^ t.length := Nat.pow_pos hB
      have h5 : m * (B - 1) + B * (m * (B ^ t.length - 1)) = m * (B ^ t.length * B - 1) := by
        rw [Nat.mul_left_comm B m, ← Nat.mul_add]
        congr 1
        rw [Nat.mul_sub, Nat.mul_one, Nat.mul_comm B]
        have : B ≤ B ^ t.length * B := Nat.le_mul_of_pos_left _ hq
        omega
      omega
  refine ⟨psum d2, psum_length 8 d2 l2, b3, by rw [psum_sum 8 d2 l2, s2, s1], e3, ?_, ?_, ?_⟩
  · have := up 4 2 d1 (by omega) (by omega) b1; rw [l1] at this; rw [e1]; omega
  · have := up 16 4 d2 (by omega) (by omega) b2; rw [l2] at this; rw [e2]; omega
  · have := up 16 4 d2 (by omega) (by omega) b2; rw [l2] at this; rw [e2]; omega
/-- the digits of a number to 256 -/
theorem dig_div (d t m : Nat) (hd : d < 256) : (d + 256 * t) / (256 * m) = t / m := by
  rw [← Nat.div_div_eq_div_mul, show (d + 256 * t) / 256 = t by omega]
theorem dig_one (d t : Nat) (hd : d < 256) : (d + 256 * t) / 256 = t := by omega
theorem sum8 (x a b c d e f g h : Nat) (ha : a ≤ 8) (hb : b ≤ 8) (hc : c ≤ 8) (hd : d ≤ 8) (he : e ≤ 8) (hf : f ≤ 8) (hg : g ≤ 8) (hh : h ≤ 8) (hx : x = a + 256 * (b + 256 * (c + 256 * (d + 256 * (e + 256 * (f + 256 * (g + 256 * h))))))) :
    ∃ y z t, x + x / 256 = y ∧ y < 2 ^ 64 ∧ y + y / 65536 = z ∧ z < 2 ^ 64 ∧ z + z / 4294967296 = t ∧ t < 2 ^ 63 ∧ t % 128 = a + b + c + d + e + f + g + h := by
  have q1 : x / 256 = b + 256 * (c + 256 * (d + 256 * (e + 256 * (f + 256 * (g + 256 * h))))) := by omega
  have e1 : x + x / 256 = (a + b) + 256 * ((b + c) + 256 * ((c + d) + 256 * ((d + e) + 256 * ((e + f) + 256 * ((f + g) + 256 * ((g + h) + 256 * h)))))) := by omega
  have q2 : (x + x / 256) / 65536 = (c + d) + 256 * ((d + e) + 256 * ((e + f) + 256 * ((f + g) + 256 * ((g + h) + 256 * h)))) := by
    rw [e1, show 65536 = 256 * 256 by decide, dig_div _ _ _ (by omega), dig_one _ _ (by omega)]
  generalize x + x / 256 = y at *
  have e2 : y + y / 65536 = (a + b + c + d) + 256 * ((b + c + d + e) + 256 * ((c + d + e + f) + 256 * ((d + e + f + g) + 256 * ((e + f + g + h) + 256 * ((f + g + h) + 256 * ((g + h) + 256 * h)))))) := by omega
  have y2 : y < 2 ^ 64 := by omega
  have q3 : (y + y / 65536) / 4294967296 = (e + f + g + h) + 256 * ((f + g + h) + 256 * ((g + h) + 256 * h)) := by
    rw [e2, show 4294967296 = 256 * 16777216 by decide, dig_div _ _ _ (by omega), show 16777216 = 256 * 65536 by decide, dig_div _ _ _ (by omega), show 65536 = 256 * 256 by decide, dig_div _ _ _ (by omega), dig_one _ _ (by omega)]
  have z2 : y + y / 65536 < 2 ^ 64 := by clear q3 q1 q2 e1 hx; omega
  obtain ⟨A, hA⟩ : ∃ A, A = (b + c + d + e) + 256 * ((c + d + e + f) + 256 * ((d + e + f + g) + 256 * ((e + f + g + h) + 256 * ((f + g + h) + 256 * ((g + h) + 256 * h))))) := ⟨_, rfl⟩
  obtain ⟨B, hB⟩ : ∃ B, B = (f + g + h) + 256 * ((g + h) + 256 * h) := ⟨_, rfl⟩
  have bA : A < 2 ^ 53 := by clear q3 q1 q2 e1 hx e2 hB y2; omega
  have bB : B < 2 ^ 53 := by clear q3 q1 q2 e1 hx e2 hA y2; omega
  rw [← hA] at e2
  rw [← hB] at q3
  clear hx q1 q2 e1 hA hB
  generalize hz : y + y / 65536 = z at *
  refine ⟨y, z, _, rfl, y2, hz, z2, rfl, ?_, ?_⟩
  · rw [q3, e2]; omega
  · rw [q3, e2, show a + b + c + d + 256 * A + (e + f + g + h + 256 * B) = (a + b + c + d + e + f + g + h) + 128 * (2 * (A + B)) by omega, Nat.add_mul_mod_self_left]
    exact Nat.mod_eq_of_lt (by omega)
def oc4 (x : Nat) : Nat := x + x / 256
def oc5 (x : Nat) : Nat := x + x / 65536
def oc6 (x : Nat) : Nat := x + x / 4294967296
theorem oc_all (x : BitVec 64) : oc1 x.toNat < 2 ^ 64 ∧ oc2 (oc1 x.toNat) < 2 ^ 64 ∧ oc2 (oc1 x.toNat) / 16 + oc2 (oc1 x.toNat) < 2 ^ 64 ∧ oc4 (oc3 (oc2 (oc1 x.toNat))) < 2 ^ 64 ∧ oc5 (oc4 (oc3 (oc2 (oc1 x.toNat)))) < 2 ^ 64 ∧ oc6 (oc5 (oc4 (oc3 (oc2 (oc1 x.toNat))))) < 2 ^ 63 ∧ (oc6 (oc5 (oc4 (oc3 (oc2 (oc1 x.toNat))))) &&& 127) = pc x 64 := by
  obtain ⟨ds, hl, hb, hs, he, h1, h2, h3⟩ := oc_bytes x.toNat x.isLt
  match ds, hl, hb, hs, he with
  | [a, b, c, d, e, f, g, h], hl, hb, hs, he =>
    obtain ⟨y, z, t, q1, q2, q3, q4, q5, q6, q7⟩ := sum8 (oc3 (oc2 (oc1 x.toNat))) a b c d e f g h (hb _ (by simp)) (hb _ (by simp)) (hb _ (by simp)) (hb _ (by simp)) (hb _ (by simp)) (hb _ (by simp)) (hb _ (by simp)) (hb _ (by simp)) (by rw [he]; rfl)
    refine ⟨h1, h2, h3, ?_, ?_, ?_, ?_⟩
    · show oc3 (oc2 (oc1 x.toNat)) + oc3 (oc2 (oc1 x.toNat)) / 256 < _
      rw [q1]; exact q2
    · unfold oc5 oc4; rw [q1, q3]; exact q4
    · unfold oc6 oc5 oc4; rw [q1, q3, q5]; exact q6
    · unfold oc6 oc5 oc4; rw [q1, q3, q5, Nat.and_two_pow_sub_one_eq_mod t 7, show 2 ^ 7 = 128 from rfl, q7, ← pc_digs, ← hs]
      simp only [List.sum_cons, List.sum_nil]; omega
end Go.Proofs.YtefaieglhllioaaDoor.BM
