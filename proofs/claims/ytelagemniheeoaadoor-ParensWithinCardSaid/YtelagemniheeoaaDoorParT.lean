/- parens: Directory walked. -/
import Derived.Test.YtelagemniheeoaaDoorParR
namespace Go.Proofs.YtelagemniheeoaaDoor
open Go.RowKit BM

/-- the numbers of the levels, to a depth -/
def dirS (n : Nat) : Nat → Nat
  | 0 => 0
  | d + 1 => dirS n d + cn n (d + 1)
/-- the same, from a depth on -/
def dirT (n d : Nat) : Nat → Nat
  | 0 => 0
  | k + 1 => cn n d + dirT n (d + 1) k
theorem dirT_succ (n : Nat) : ∀ (k d : Nat), dirT n d (k + 1) = dirT n d k + cn n (d + k)
  | 0, d => by simp [dirT]
  | k + 1, d => by
    show cn n d + dirT n (d + 1) (k + 1) = cn n d + dirT n (d + 1) k + _
    rw [dirT_succ n k (d + 1)]
    rw [show d + 1 + k = d + (k + 1) by omega]
    omega
theorem dirS_T (n : Nat) : ∀ k, dirS n k = dirT n 1 k
  | 0 => rfl
  | k + 1 => by rw [dirT_succ, ← dirS_T n k, Nat.add_comm 1 k]; rfl
theorem dirT_le (n : Nat) : ∀ (k d : Nat), 1 ≤ d → cn n (d + k) = 1 → (∀ j, d ≤ j → j < d + k → 1 < cn n j) → 2 * dirT n d (k + 1) ≤ 3 + 4 * (cn n d - 1)
  | 0, d, _, h, _ => by
    have : cn n d = 1 := h
    simp [dirT, this]
  | k + 1, d, hd, h, hg => by
    have ih := dirT_le n k (d + 1) (by omega) (by rw [show d + 1 + k = d + (k + 1) by omega]; exact h) (fun j h1 h2 => hg j (by omega) (by omega))
    have hc := cn_up (n := n) hd
    have h1 := hg d (Nat.le_refl _) (by omega)
    show 2 * (cn n d + dirT n (d + 1) (k + 1)) ≤ _
    generalize dirT n (d + 1) (k + 1) = t at *
    generalize cn n (d + 1) = c at *
    generalize cn n d = e at *
    omega
theorem dir_le {n L : Nat} (hL : 1 ≤ L) (h1 : cn n L = 1) (hg : ∀ d, 1 ≤ d → d < L → 1 < cn n d) : 1 + (n / 64 + 1) + 2 * dirS n L ≤ 5 + 5 * ((n + 63) / 64) := by
  obtain ⟨k, rfl⟩ : ∃ k, L = k + 1 := ⟨L - 1, by omega⟩
  have h := dirT_le n k 1 (Nat.le_refl _) (by rw [Nat.add_comm]; exact h1) (fun j a b => hg j a (by omega))
  rw [← dirS_T] at h
  have e : cn n 1 = n / 64 + 1 := by simp [cn, sh]
  rw [e] at h
  omega
theorem dirS_bd (n : Nat) : ∀ L, dirS n L ≤ L * (n + 1)
  | 0 => by simp [dirS]
  | L + 1 => by
    show dirS n L + cn n (L + 1) ≤ _
    have h1 := dirS_bd n L
    have h2 : cn n (L + 1) ≤ n + 1 := Nat.succ_le_succ (Nat.div_le_self _ _)
    rw [Nat.succ_mul]; omega
set_option maxHeartbeats 1000000 in
theorem Directory_any (b : Nat) (v : VD) (w : World) (hV : VX0 w b v) : Calls Tryd.prog 32 #[.pointer (some ⟨b, 0, none⟩)] w (ResI (1 + (v.n / 64 + 1) + 2 * dirS v.n v.lv.length : Nat) w) := by
  obtain ⟨hX, hok, h100⟩ := hV
  have hn := hok.1.2.1
  have hrl : v.rs.length = v.n / 64 + 1 := by rw [hok.1.2.2]; simp
  have HX := Lib.hid (fun W (hb : Below w.heap.size w W) => hX.below hb)
  have HLK := Lib.hid hok.2.1
  obtain ⟨x0, x1, x2, x3⟩ := hX.1
  rw [hrl] at x2
  have h0 : ((v.n / 64 + 1 : Nat) : Int) ≠ 0 := by omega
  have h1 : ¬ v.n / 64 + 1 = 0 := by omega
  have hsb := fun i (hi : i ≤ v.lv.length) => dirS_bd v.n i
  obtain ⟨C, hC⟩ : ∃ C, v.n / 64 + 1 = C := ⟨_, rfl⟩
  rw [hC] at x2 h0 h1 ⊢
  have hCb : C ≤ 1125899906842625 := by omega
  have h2 : ((C : Int) == 0) = false := by simpa using h0
  have hbig : v.lv.length * (v.n + 1) ≤ 100 * 1125899906842625 := Nat.mul_le_mul h100 (by omega)
  have HSB : Hid (∀ i, i ≤ v.lv.length → dirS v.n i ≤ 112589990684262500) := Lib.hid (fun i hi => Nat.le_trans (hsb i hi) (Nat.le_trans (Nat.mul_le_mul_right _ hi) (by omega)))
  obtain ⟨lb0, lo0, hla⟩ : ∃ lb lo, v.la = some ⟨lb, lo, none⟩ := by
    obtain ⟨L, hL⟩ : ∃ L, v.lv[0]? = some L := ⟨_, List.getElem?_eq_getElem hok.2.2.1⟩
    obtain ⟨b1, o1, h, _⟩ := hX.2.2.2.1 _ _ (lvv_get0 hL).1
    exact ⟨b1, o1, h⟩
  rw [hla] at x3
  have HLA := Lib.hid hla
  clear hX hok hrl hC h0 hsb hbig hla
  go_enter Tryd.func32, Tryd.ntmps32
  go_wp2_with fail
  go_loopw [3, 5, 27] (fun s3 _ s27 wr => ∃ i : Nat, i ≤ v.lv.length ∧ s27 = .int .i64 i ∧ s3 = .int .i64 ((1 + C + 2 * dirS v.n i : Nat) : Int) ∧ Hid (Below w.heap.size w wr)) (fun _ _ s27 _ => v.lv.length - (intOf s27).toNat)
  case atStart => exact ⟨0, by omega, rfl, by simp [dirS], Lib.hid (Below.refl _ _)⟩
  case round =>
    obtain ⟨i, hi, rfl, rfl, BR⟩ := hrel
    by_cases hlt : i < v.lv.length
    · obtain ⟨L, hL⟩ : ∃ L, v.lv[i]? = some L := ⟨_, List.getElem?_eq_getElem hlt⟩
      obtain ⟨k1, k2, -⟩ := HLK.out i L hL
      obtain ⟨lb, lo, hla, hlc⟩ := (HX.out wr BR.out).2.2.2.1 _ _ (lvv_get0 hL).1
      obtain ⟨lb2, lo2, hla2, hlc2⟩ := (HX.out wr BR.out).2.2.2.1 _ _ (lvv_get0 hL).2
      rw [HLA.out] at hla hla2
      simp only [Option.some.injEq, Addr.mk.injEq, and_true] at hla hla2
      obtain ⟨rfl, rfl⟩ := hla
      obtain ⟨rfl, rfl⟩ := hla2
      rw [← Nat.add_assoc] at hlc2
      rw [k1] at hlc
      rw [k2] at hlc2
      have hs1 := HSB.out i hi
      have hs2 := HSB.out (i + 1) hlt
      have HD : Hid (dirS v.n (i + 1) = dirS v.n i + cn v.n (i + 1)) := Lib.hid rfl
      rw [HD.out] at hs2
      have bA := (Below.refl wr.heap.size wr).alloc (Nat.le_refl _) (.cells #[.slice L.la (cn v.n (i + 1)) L.lc, .slice L.ma (cn v.n (i + 1)) L.mc] 55)
      have BN := Lib.hid (BR.out.trans (bA.mono BR.out.size))
      generalize dirS v.n i = s at *
      generalize cn v.n (i + 1) = c at *
      clear hL k1 k2 bA
      go_wp2
      go_roundw
      case rel => exact ⟨i + 1, by omega, by go_num, by rw [HD.out]; congr 1; omega, BN⟩
      case measure => simp [intOf]; omega
    · obtain rfl : i = v.lv.length := by omega
      go_wp2
      go_ret
      exact ⟨rfl, BR.out⟩
end Go.Proofs.YtelagemniheeoaaDoor
