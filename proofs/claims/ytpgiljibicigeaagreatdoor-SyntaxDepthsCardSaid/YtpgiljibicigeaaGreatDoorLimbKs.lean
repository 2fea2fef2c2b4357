/- Walks: Cut. -/
import Derived.Test.YtpgiljibicigeaaGreatDoorLimbGs
import Derived.Deep.RegionLaw
import Derived.Test.YtpgiljibicigeaaGreatDoorLimbMaths
import Derived.BigQuiet
import Derived.IntWalk
set_option linter.unusedVariables false
set_option linter.unusedSimpArgs false
namespace Go.Proofs.YtpgiljibicigeaaGreatDoor
open Go.RowKit LM

theorem cut_step {Y D : List Nat} {u c p v : Nat} (hp : p < Y.length) (h : vl 1000000000 (Y.drop (p + 1)) = u * vl 1000000000 D + c) (hv : v = c * 1000000000 + Y[p]?.getD 0) :
    vl 1000000000 (Y.drop p) = u * vl 1000000000 (v / u :: D) + v % u := by
  rw [vl_drop_step hp, h]
  simp only [vl]
  have e := Nat.div_add_mod v u
  rw [Nat.mul_add u, Nat.mul_left_comm u]
  omega
theorem cut_low {u c y : Nat} (hc : c < u) (hy : y < 1000000000) : (c * 1000000000 + y) / u < 1000000000 := by
  rw [Nat.div_lt_iff_lt_mul (by omega)]
  have : (c + 1) * 1000000000 ≤ u * 1000000000 := Nat.mul_le_mul_right _ hc
  rw [Nat.mul_comm 1000000000 u]; omega
theorem cut_set {p v : Nat} {D : List Nat} : (List.replicate (p + 1) 0 ++ D).set p v = List.replicate p 0 ++ v :: D := by
  rw [List.set_append, if_pos (by simp)]
  have : (List.replicate (p + 1) 0).set p v = List.replicate p 0 ++ [v] := by
    rw [List.replicate_succ', List.set_append, if_neg (by simp)]; simp
  rw [this]; simp
theorem cut_all {X D : List Nat} {n k u c v : Nat} (hlo : Lo 1000000000 X) (hv : vl 1000000000 X = v) (hk : k = min (n / 9) X.length) (hu : u = 10 ^ (n % 9)) (hc : c < u) (h : vl 1000000000 (X.drop k) = u * vl 1000000000 D + c) :
    vl 1000000000 D = v / 10 ^ n ∧ vl 1000000000 (X.take k ++ [c]) = v % 10 ^ n := by
  have h1 := vl_drop (b := 1000000000) (l := X) (k := k) (by omega)
  rw [vl_append, vl_one, List.length_take, Nat.min_eq_left (by omega : k ≤ X.length)]
  have h2 := vl_lt (b := 1000000000) (l := X.take k) (fun z hz => hlo z (List.mem_of_mem_take hz))
  rw [List.length_take, Nat.min_eq_left (by omega : k ≤ X.length)] at h2
  rcases Nat.le_total (n / 9) X.length with h9 | h9
  · obtain rfl : k = n / 9 := by omega
    have hp := shift_pow n
    rw [← hu] at hp
    rw [hv, h, Nat.mul_add, ← Nat.mul_assoc, hp] at h1
    have hb : vl 1000000000 (X.take (n / 9)) + 1000000000 ^ (n / 9) * c < 10 ^ n := by
      have : 1000000000 ^ (n / 9) * (c + 1) ≤ 1000000000 ^ (n / 9) * u := Nat.mul_le_mul_left _ hc
      rw [hp, Nat.mul_add, Nat.mul_one] at this
      omega
    have e : v = (vl 1000000000 (X.take (n / 9)) + 1000000000 ^ (n / 9) * c) + 10 ^ n * vl 1000000000 D := by omega
    constructor
    · rw [e, Nat.add_mul_div_left _ _ (Nat.pow_pos (by omega)), Nat.div_eq_of_lt hb, Nat.zero_add]
    · rw [e, Nat.add_mul_mod_self_left, Nat.mod_eq_of_lt hb]
  · obtain rfl : k = X.length := by omega
    rw [List.drop_length, vl_nil] at h
    have hD : u * vl 1000000000 D = 0 := by omega
    have hc0 : c = 0 := by omega
    have hd0 : vl 1000000000 D = 0 := by
      rcases Nat.mul_eq_zero.1 hD with h3 | h3
      · omega
      · exact h3
    rw [List.take_length] at h2 ⊢
    subst hc0
    rw [hd0, Nat.mul_zero, Nat.add_zero, hv]
    rw [hv] at h2
    have hlt : v < 10 ^ n := by
      refine Nat.lt_of_lt_of_le h2 ?_
      rw [show (1000000000 : Nat) = 10 ^ 9 by decide, ← Nat.pow_mul]
      exact Nat.pow_le_pow_right (by omega) (by omega)
    exact ⟨(Nat.div_eq_of_lt hlt).symm, (Nat.mod_eq_of_lt hlt).symm⟩

set_option maxHeartbeats 8000000 in
set_option maxRecDepth 100000 in
theorem Cut_any (a : Option Addr) (cap : Nat) (l : List Nat) (n : Nat) (w : World) (hn : n ≤ 30000) (hl : l.length ≤ 536870912) (hlo : Lo 4294967296 l) (hrd : Rd w .u32 a l) :
    Calls Tryz.prog 137 #[.slice a l.length cap, .int .i64 n] w fun e w' => ∃ a1 c1 a2 c2, e = .returned (.tuple #[.slice a1 (dg 1000000000 (vl 1000000000 l / 10 ^ n)).length c1, .slice a2 (dg 1000000000 (vl 1000000000 l % 10 ^ n)).length c2, .int .i64 0]) ∧
      Own w' w.heap.size 141 .u32 a1 c1 (dg 1000000000 (vl 1000000000 l / 10 ^ n)) ∧ Own w' w.heap.size 141 .u32 a2 c2 (dg 1000000000 (vl 1000000000 l % 10 ^ n)) ∧ Below w.heap.size w w' := by
  have HLO := Lib.hid hlo
  have hn1 := nlen hlo
  clear hlo
  go_enter Tryz.func137, Tryz.ntmps137
  go_wp2_with fail
  refine (mayShift_yes n w hn).mono ?_
  rintro e w' ⟨rfl, rfl⟩
  go_wp2_with fail
  refine (Norm_any a cap l w (by omega) HLO.out hrd).mono ?_
  rintro e w1 ⟨a1, c1, rfl, hown1, hb1⟩
  have hlx := Lo_dg (b := 1000000000) (by omega) (vl 1000000000 l)
  have hvx := vl_dg (b := 1000000000) (by omega) (vl 1000000000 l)
  have HLX := Lib.hid hlx; have HVX := Lib.hid hvx
  clear hlx hvx hrd
  generalize dg 1000000000 (vl 1000000000 l) = X at *
  obtain ⟨k, hk⟩ : ∃ k, k = min (n / 9) X.length := ⟨_, rfl⟩
  have hkI : min ((n : Int) / 9) (X.length : Int) = (k : Int) := by omega
  have hk1 : k ≤ X.length := by omega
  have HK := Lib.hid hk
  clear hk
  go_wp2_with fail
  refine (tenTo_any (n % 9) w1 (by omega)).mono ?_
  rintro e w' ⟨u, HU, hu, rfl, rfl⟩
  have hu1 : 1 ≤ u := by rw [HU.out]; exact Nat.one_le_pow _ _ (by omega)
  have hrd1 := hown1.rd
  have HR1 := Lib.hid hrd1
  have HO1 := Lib.hid hown1
  clear hrd1 hown1
  go_wp2_with (at_make; refine wp_make _ rfl _ _ 125 rfl w1.heap.size 141 .u32 4 Tryz.underlying125 infoU32 _ _ _ _ (X.length - k) rfl rfl (by omega) (by omega) (by omega) (by unfold maxLen; omega) (Nat.le_refl _) ?_)
  intro w2 hown2 hb2
  clear hkI
  go_wp2_with fail
  go_loopw [11, 35] (fun v11 i wr => ∃ (j c : Nat) (D : List Nat), j ≤ X.length - k ∧ i = .int .i64 j ∧ v11 = .int .u32 c ∧ c < u ∧ Hid (D.length = j) ∧ Hid (Lo 1000000000 D) ∧
      Hid (vl 1000000000 ((X.drop k).drop (X.length - k - j)) = u * vl 1000000000 D + c) ∧ Own wr w1.heap.size 141 .u32 (some ⟨w1.heap.size, 0, none⟩) (X.length - k) (List.replicate (X.length - k - j) 0 ++ D) ∧ Below w1.heap.size w1 wr) (fun _ i _ => X.length - k - (intOf i).toNat)
  case atStart => exact ⟨0, 0, [], Nat.zero_le _, rfl, rfl, by omega, (rfl : ([] : List Nat).length = 0), Lo_nil _, (by rw [Nat.sub_zero, List.drop_of_length_le (by simp)]; simp [vl] : vl 1000000000 ((X.drop k).drop (X.length - k - 0)) = u * vl 1000000000 [] + 0), by rw [Nat.sub_zero, List.append_nil]; exact hown2, hb2⟩
  case round =>
    obtain ⟨j, c, D, hj, rfl, rfl, hc, HDL, HDLo, HV, hownr, hblr⟩ := hrel
    by_cases hlt : j < X.length - k
    · obtain ⟨b, off, y, e1, HY, hy, cy⟩ := (HR1.out.below hblr).get HLX.out (k + (X.length - k - 1 - j)) (by omega)
      have hdl := HDL.out
      have hlen : (List.replicate (X.length - k - j) 0 ++ D).length = X.length - k := by simp; omega
      have hcq := hownr.cell (X.length - k - 1 - j) (by omega)
      have hfr := hownr.frozen (X.length - k - 1 - j)
      have hlow := cut_low hc hy
      have hmod : (c * 1000000000 + y) % u < u := Nat.mod_lt _ (by omega)
      have hlowI : ((c : Int) * 1000000000 + (y : Int)) / (u : Int) < 1000000000 := by
        have : ((c : Int) * 1000000000 + (y : Int)) / (u : Int) = (((c * 1000000000 + y) / u : Nat) : Int) := by simp
        rw [this]; omega
      have hlowI0 : 0 ≤ ((c : Int) * 1000000000 + (y : Int)) / (u : Int) := by
        have : ((c : Int) * 1000000000 + (y : Int)) / (u : Int) = (((c * 1000000000 + y) / u : Nat) : Int) := by simp
        rw [this]; exact Int.natCast_nonneg _
      have hmodI : ((c : Int) * 1000000000 + (y : Int)) % (u : Int) < (u : Int) := by
        have : ((c : Int) * 1000000000 + (y : Int)) % (u : Int) = (((c * 1000000000 + y) % u : Nat) : Int) := by simp
        rw [this]; omega
      have hmodI0 : 0 ≤ ((c : Int) * 1000000000 + (y : Int)) % (u : Int) := by
        have : ((c : Int) * 1000000000 + (y : Int)) % (u : Int) = (((c * 1000000000 + y) % u : Nat) : Int) := by simp
        rw [this]; exact Int.natCast_nonneg _
      have HLEN := Lib.hid hlen
      clear hdl hlen
      subst e1
      have hown3 : ∀ yv : Int, yv = (((c * 1000000000 + y) / u : Nat) : Int) → Own (wr.setCell ⟨w1.heap.size, X.length - k - 1 - j, none⟩ (.int .u32 yv)) w1.heap.size 141 .u32 (some ⟨w1.heap.size, 0, none⟩) (X.length - k) (List.replicate (X.length - k - (j + 1)) 0 ++ (c * 1000000000 + y) / u :: D) := by
        intro yv hyv
        have := hownr.set' (X.length - k - 1 - j) _ hyv
        rw [show X.length - k - j = (X.length - k - (j + 1)) + 1 by omega, show X.length - k - 1 - j = X.length - k - (j + 1) by omega, cut_set] at this
        rw [show X.length - k - 1 - j = X.length - k - (j + 1) by omega]; exact this
      have hv3 : vl 1000000000 ((X.drop k).drop (X.length - k - (j + 1))) = u * vl 1000000000 ((c * 1000000000 + y) / u :: D) + (c * 1000000000 + y) % u := by
        refine cut_step (c := c) (by simp; omega) ?_ ?_
        · rw [show X.length - k - (j + 1) + 1 = X.length - k - j by omega]; exact HV.out
        · rw [HY.out, List.getElem?_drop, show k + (X.length - k - (j + 1)) = k + (X.length - k - 1 - j) by omega]
      have HO3 := Lib.hid hown3; have HV3 := Lib.hid hv3
      clear hown3 hv3
      go_wp2
      go_roundw
      case rel => exact ⟨j + 1, (c * 1000000000 + y) % u, (c * 1000000000 + y) / u :: D, by omega, by go_num, by simp, hmod, (by rw [List.length_cons, HDL.out] : ((c * 1000000000 + y) / u :: D).length = j + 1), (by intro z hz; rcases List.mem_cons.1 hz with rfl | hz; exact hlow; exact HDLo.out z hz : Lo 1000000000 ((c * 1000000000 + y) / u :: D)), HV3, HO3.out _ (by simp), hblr.setCell (Nat.le_refl _) _⟩
      case measure => simp [intOf]; omega
    · obtain rfl : j = X.length - k := by omega
      have hV := HV.out
      rw [Nat.sub_self, List.drop_zero] at hV
      rw [Nat.sub_self, List.replicate_zero, List.nil_append] at hownr
      obtain ⟨hq, hr⟩ := cut_all HLX.out HVX.out HK.out HU.out hc hV
      have htq : tr D = dg 1000000000 (vl 1000000000 l / 10 ^ n) := by rw [tr_eq (by omega) HDLo.out, hq]
      have htr : tr (X.take k ++ [c]) = dg 1000000000 (vl 1000000000 l % 10 ^ n) := by
        rw [tr_eq (by omega) (Lo_append (fun z hz => HLX.out z (List.mem_of_mem_take hz)) (Lo_one (by omega))), hr]
      have hTQ : ∀ wq, Rd wq .u32 (some ⟨w1.heap.size, 0, none⟩) D → Calls Tryz.prog 133 #[.slice (some ⟨w1.heap.size, 0, none⟩) (X.length - k) (X.length - k)] wq fun e w' => e = .returned (.slice (some ⟨w1.heap.size, 0, none⟩) (dg 1000000000 (vl 1000000000 l / 10 ^ n)).length (X.length - k)) ∧ wq = w' := by
        intro wq hrq
        have h := trim_any (some ⟨w1.heap.size, 0, none⟩) (X.length - k) D wq (by have := HDL.out; omega) hrq (by have := HDL.out; omega)
        rw [HDL.out, htq] at h; exact h
      have hownx := (HO1.out.below hblr).take k hk1
      have hlk : (X.take k).length = k := by simp; omega
      have HTQ := Lib.hid hTQ; have HLK := Lib.hid hlk; have HTR := Lib.hid htr; have HTQ0 := Lib.hid htq
      clear hTQ hlk htr htq hq hr hV
      have hbyt : ((X.take k).length + 1) * 4 ≤ 140737488355328 := by rw [HLK.out]; omega
      have hmx : (X.take k).length + 1 ≤ maxLen := by rw [HLK.out]; unfold maxLen; omega
      have HBY := Lib.hid hbyt; have HMX := Lib.hid hmx
      have hsz : w.heap.size ≤ wr.heap.size := Nat.le_trans hb1.size hblr.size
      have HRQ := Lib.hid hownr.rd
      have HOX := Lib.hid hownx; have HOQ := Lib.hid hownr
      clear hbyt hmx hownx hownr hown2 hb2
      have hT2 : ∀ a' c' w', Own w' w.heap.size 141 .u32 a' c' (X.take k ++ [c]) → Calls Tryz.prog 133 #[.slice a' (k + 1) c'] w' fun e w'' => e = .returned (.slice a' (dg 1000000000 (vl 1000000000 l % 10 ^ n)).length c') ∧ w' = w'' := by
        intro a' c' w' ho
        have hl2 : (X.take k ++ [c]).length = k + 1 := by rw [List.length_append, HLK.out]; rfl
        have h := trim_any a' c' _ w' (by rw [hl2]; omega) ho.rd ho.cap.1
        rw [hl2, HTR.out] at h; exact h
      have HT2 := Lib.hid hT2
      have hkc : k ≤ c1 := Nat.le_trans hk1 HO1.out.cap.1
      have hfin : ∀ (o : Obj) a' c' w', Own w' w.heap.size 141 .u32 a' c' (X.take k ++ [c]) → Below w.heap.size (wr.alloc o).drew w' → (wr.alloc o).drew.grownBy w' (Value.slice a1 k c1).ownBlock →
          Own w' w.heap.size 141 .u32 (some ⟨w1.heap.size, 0, none⟩) (X.length - k) (dg 1000000000 (vl 1000000000 l / 10 ^ n)) ∧ Own w' w.heap.size 141 .u32 a' c' (dg 1000000000 (vl 1000000000 l % 10 ^ n)) ∧ Below w.heap.size w w' := by
        intro o a' c' w' ho hb hg
        have hq1 : Own (wr.alloc o).drew w.heap.size 141 .u32 (some ⟨w1.heap.size, 0, none⟩) (X.length - k) D := ((HOQ.out.alloc o).drew).mono hb1.size
        have hq2 : Own w' w.heap.size 141 .u32 (some ⟨w1.heap.size, 0, none⟩) (X.length - k) D := by
          refine World.ownsRow.kept hq1 hg ?_
          right
          rcases HO1.out.shape with ⟨h1, _⟩ | ⟨g', h1, _, hl', _⟩
          · rw [h1]; simp [Value.ownBlock]
          · rw [h1]; simp [Value.ownBlock]; omega
        have hq3 := hq2.take (tr D).length (by have := tr_take D; rw [this]; simp; omega)
        have hr3 := ho.take (tr (X.take k ++ [c])).length (by have := tr_take (X.take k ++ [c]); rw [this]; simp; omega)
        rw [← tr_take, HTQ0.out] at hq3
        rw [← tr_take, HTR.out] at hr3
        exact ⟨hq3, hr3, (hb1.trans (hblr.mono hb1.size)).trans ((((Below.refl _ _).alloc hsz o).drew).trans hb)⟩
      have HFIN := Lib.hid hfin
      clear hT2 hfin
      go_wp2_with fail
      go_region_law (first
        | (refine step_push _ rfl _ _ 125 rfl w.heap.size 141 .u32 4 Tryz.underlying125 infoU32 a1 c1 k (X.take k) HLK.out.symm rfl c wr.heap.size rfl (by simp) (HOX.out.alloc _).drew HBY.out HMX.out (by simp; omega) ?_; intro ao' cap' w' hownr' hbr' hgr'; have hfin := HFIN.out _ _ _ _ hownr' hbr' hgr')
        | (go_simp; go_at_call 133; (with_reducible refine (HTQ.out _ HRQ.out.drew).mono ?_); rintro e w' ⟨rfl, rfl⟩)
        | (go_simp; go_at_call 133; (with_reducible refine (HTQ.out _ (HRQ.out.alloc _).drew).mono ?_); rintro e w' ⟨rfl, rfl⟩)
        | (go_simp; go_at_call 133; (with_reducible refine (HT2.out _ _ _ (by assumption)).mono ?_); rintro e w' ⟨rfl, rfl⟩))
      all_goals go_wp2
      all_goals go_ret3
      all_goals exact ⟨_, _, _, _, rfl, by assumption⟩
end Go.Proofs.YtpgiljibicigeaaGreatDoor

/- Plain mathematics: the school's division. Nothing of the program. -/
namespace Go.Proofs.YtpgiljibicigeaaGreatDoor.LM

/-! is t times y above a window? -/
/-! The bounds of a quotient's limb -/
/-! The rounds -/
end Go.Proofs.YtpgiljibicigeaaGreatDoor.LM

/- Plain mathematics: the highest limbs' bounds. Nothing of the program. -/
namespace Go.Proofs.YtpgiljibicigeaaGreatDoor.LM

end Go.Proofs.YtpgiljibicigeaaGreatDoor.LM

/- Plain mathematics: digits in base 10 and limbs. Nothing of the program. -/
namespace Go.Proofs.YtpgiljibicigeaaGreatDoor.LM

end Go.Proofs.YtpgiljibicigeaaGreatDoor.LM

/- Plain mathematics: the document's difference, product, quotient, text, cut. Nothing of the program. -/
namespace Go.Proofs.YtpgiljibicigeaaGreatDoor.LM

/-! The difference -/
/-! The product -/
/-! The cut -/
/-! The quotient -/
/-! The text -/
end Go.Proofs.YtpgiljibicigeaaGreatDoor.LM

/- Plain mathematics of exact decimals: noughts at the end, the plain one of a worth, what fits. Nothing of the program. -/
namespace Go.Proofs.YtpgiljibicigeaaGreatDoor.LM

/-- how many noughts a number's digits end with -/
def tz (n : Nat) : Nat := if _h : 0 < n ∧ n % 10 = 0 then tz (n / 10) + 1 else 0
termination_by n
decreasing_by exact Nat.div_lt_self _h.1 (by omega)
theorem tz_no {n : Nat} (h : n % 10 ≠ 0) : tz n = 0 := by rw [tz]; simp [h]
theorem tz_zero : tz 0 = 0 := by rw [tz]; simp
theorem tz_yes {n : Nat} (h0 : 0 < n) (h : n % 10 = 0) : tz n = tz (n / 10) + 1 := by rw [tz]; simp [h0, h]
theorem tz_mul {m : Nat} (hm : 0 < m) : ∀ k, tz (m * 10 ^ k) = tz m + k := by
  intro k
  induction k with
  | zero => simp
  | succ k ih =>
    have hp : 0 < 10 ^ k := Nat.pow_pos (by omega)
    have hmp : 0 < m * 10 ^ k := Nat.mul_pos hm hp
    rw [Nat.pow_succ, ← Nat.mul_assoc, tz_yes (by omega) (Nat.mul_mod_left _ _), Nat.mul_div_left _ (by omega), ih]; omega
theorem tz_plain {m : Nat} (hm : m % 10 ≠ 0) (k : Nat) : tz (m * 10 ^ k) = k := by rw [tz_mul (by omega), tz_no hm, Nat.zero_add]
/-- a number without its noughts at the end -/
def core (n : Nat) : Nat := n / 10 ^ tz n
theorem tz_spec : ∀ n, 0 < n → core n % 10 ≠ 0 ∧ core n * 10 ^ tz n = n := by
  intro n
  induction n using Nat.strongRecOn with
  | _ n ih =>
    intro hn
    unfold core
    by_cases h : n % 10 = 0
    · have h1 := ih (n / 10) (by omega) (by omega)
      unfold core at h1
      rw [tz_yes hn h, Nat.pow_succ, Nat.mul_comm (10 ^ tz (n / 10)) 10, ← Nat.div_div_eq_div_mul]
      refine ⟨h1.1, ?_⟩
      rw [Nat.mul_left_comm, h1.2]; omega
    · rw [tz_no h]; simp [h]
theorem core_pos {n : Nat} (h : 0 < n) : 0 < core n := by have := (tz_spec n h).1; omega
theorem core_le (n : Nat) : core n ≤ n := Nat.div_le_self _ _
theorem tz_lt {n M : Nat} (h0 : 0 < n) (h : n < 10 ^ M) : tz n < M := by
  have h1 := (tz_spec n h0).2
  have h2 := core_pos h0
  rcases Nat.lt_or_ge (tz n) M with h3 | h3
  · exact h3
  · exfalso
    have h4 : 10 ^ M ≤ 10 ^ tz n := Nat.pow_le_pow_right (by omega) h3
    have h5 := Nat.le_mul_of_pos_left (10 ^ tz n) h2
    omega

/-- a number in sign, digits' worth, and power -/
structure Pl where
  neg : Bool
  m : Nat
  e : Int
def zP : Pl := ⟨false, 0, 0⟩
/-- the plain one -/
def pl (s : Bool) (v : Nat) (e : Int) : Pl := if v = 0 then zP else ⟨s, core v, e + tz v⟩
def dl (m : Nat) : Nat := (dg 10 m).length
def inR (p : Pl) : Bool := decide (dl p.m ≤ 400 ∧ -10000 ≤ p.e + dl p.m - 1 ∧ p.e + dl p.m - 1 ≤ 10000)
/-- an answer: an error's number, and a number -/
structure Ans where
  err : Nat
  p : Pl
def tellA (s : Bool) (v : Nat) (e : Int) : Ans := if inR (pl s v e) = true then ⟨0, pl s v e⟩ else ⟨3, zP⟩
theorem zP_in : inR zP = true := by
  unfold inR zP dl
  rw [dg_zero]; rfl
/-! Noughts at the end of limbs. -/
theorem tz_limbs {l : List Nat} {k : Nat} (hk : k < l.length) (hz : ∀ j, j < k → l[j]?.getD 0 = 0) (hne : l[k]?.getD 0 ≠ 0) (hlo : Lo 1000000000 l) : tz (vl 1000000000 l) = 9 * k + tz (l[k]?.getD 0) := by
  have h1 : ∀ j, j ≤ k → vl 1000000000 (l.take j) = 0 := by
    intro j
    induction j with
    | zero => intro _; rfl
    | succ j ih => intro hj; rw [take_snoc l j (by omega), vl_append, ih (by omega), vl_one, hz j (by omega)]; simp
  have h2 := vl_drop (b := 1000000000) (l := l) (k := k) (by omega)
  rw [h1 k (Nat.le_refl _), Nat.zero_add, vl_drop_step hk] at h2
  have hx := Lo_get hlo (by omega) k
  generalize l[k]?.getD 0 = x at *
  generalize vl 1000000000 (l.drop (k + 1)) = r at *
  rw [h2, show (1000000000 : Nat) ^ k = 10 ^ (9 * k) by rw [show (1000000000 : Nat) = 10 ^ 9 by decide, ← Nat.pow_mul], Nat.mul_comm, tz_mul (by omega)]
  obtain ⟨c1, c2⟩ := tz_spec x (by omega)
  have ht : tz x < 9 := tz_lt (M := 9) (by omega) (by rw [show (10 : Nat) ^ 9 = 1000000000 by decide]; exact hx)
  have e : x + 1000000000 * r = (core x + 10 ^ (9 - tz x) * r) * 10 ^ tz x := by
    rw [Nat.add_mul, c2, Nat.mul_right_comm, ← Nat.pow_add, show 9 - tz x + tz x = 9 by omega, show (10 : Nat) ^ 9 = 1000000000 by decide]
  have hmod : (core x + 10 ^ (9 - tz x) * r) % 10 ≠ 0 := by
    obtain ⟨q, hq⟩ : ∃ q, 9 - tz x = q + 1 := ⟨9 - tz x - 1, by omega⟩
    rw [hq, Nat.pow_succ, Nat.mul_comm (10 ^ q) 10, Nat.mul_assoc, Nat.add_mul_mod_self_left]; exact c1
  rw [e, tz_plain hmod]; omega
end Go.Proofs.YtpgiljibicigeaaGreatDoor.LM

/- Walks of dec: isNear, noughtsAtEnd. -/
namespace Go.Proofs.YtpgiljibicigeaaGreatDoor
open Go.RowKit LM

theorem zeros_worth {l : List Nat} : ∀ k, k ≤ l.length → (∀ j, j < k → l[j]?.getD 0 = 0) → vl 1000000000 (l.take k) = 0 := by
  intro k
  induction k with
  | zero => intro _ _; rfl
  | succ k ih => intro hk h; rw [take_snoc l k (by omega), vl_append, ih (by omega) (fun j hj => h j (by omega)), vl_one, h k (by omega)]; simp
theorem zeros_more {l : List Nat} {k : Nat} (h0 : 0 < vl 1000000000 l) (hk : k < l.length) (hz : ∀ j, j < k → l[j]?.getD 0 = 0) (h : l[k]?.getD 0 = 0) : k + 1 < l.length := by
  rcases Nat.lt_or_ge (k + 1) l.length with h1 | h1
  · exact h1
  · exfalso
    have h2 := zeros_worth (l := l) (k + 1) (by omega) (fun j hj => by
      rcases Nat.lt_or_ge j k with h3 | h3
      · exact hz j h3
      · rw [show j = k by omega]; exact h)
    rw [List.take_of_length_le h1] at h2
    omega

set_option maxHeartbeats 2000000 in
theorem noughtsAtEnd_any (a : Option Addr) (c : Nat) (l : List Nat) (w : World) (hl : l.length ≤ 1000000) (hlo : Lo 1000000000 l) (hv : 0 < vl 1000000000 l) (hrd : Rd w .u32 a l) :
    Calls Tryz.prog 136 #[.slice a l.length c] w fun e w' => e = .returned (.int .i64 (tz (vl 1000000000 l) : Nat)) ∧ w = w' := by
  have HLO := Lib.hid hlo; have HV := Lib.hid hv
  have hpos : 0 < l.length := by
    rcases Nat.eq_zero_or_pos l.length with e | e
    · rw [List.eq_nil_of_length_eq_zero e] at hv; simp [vl] at hv
    · exact e
  clear hlo hv
  go_enter Tryz.func136, Tryz.ntmps136
  go_wp2
  go_loop [3] (fun i => ∃ k : Nat, k < l.length ∧ i = .int .i64 k ∧ Hid (∀ j, j < k → l[j]?.getD 0 = 0)) (fun i => l.length - (intOf i).toNat)
  case atStart => exact ⟨0, hpos, rfl, Lib.hid (fun j hj => by omega)⟩
  case round =>
    obtain ⟨k, hk, rfl, HZ⟩ := hrel
    obtain ⟨b, off, x, e1, HX, hx, hc⟩ := hrd.get HLO.out k hk
    subst e1
    rcases Nat.eq_zero_or_pos x with h0 | h0
    · have hk1 : k + 1 < l.length := zeros_more HV.out hk HZ.out (by rw [← HX.out]; exact h0)
      have HZ1 := Lib.hid (show ∀ j, j < k + 1 → l[j]?.getD 0 = 0 from fun j hj => by
        rcases Nat.lt_or_ge j k with h3 | h3
        · exact HZ.out j h3
        · rw [show j = k by omega, ← HX.out]; exact h0)
      have hxB : ((x : Int) == 0) = true := by simp [h0]
      clear h0
      go_wp2
      go_round
      case rel => exact ⟨k + 1, hk1, by go_num, HZ1⟩
      case measure => simp [intOf]; omega
    · have hxB : ((x : Int) == 0) = false := by simp; omega
      have hT := tz_limbs hk HZ.out (by rw [← HX.out]; omega) HLO.out
      rw [← HX.out] at hT
      have HT := Lib.hid hT
      clear hT
      go_wp2_with fail
      clear hxB hc
      go_loop [4, 5] (fun v4 v5 => ∃ j r : Nat, v4 = .int .i64 ((9 * k + j : Nat) : Int) ∧ v5 = .int .u32 r ∧ 0 < r ∧ r < 1000000000 ∧ j ≤ 9 ∧ r * 10 ^ j ≤ 1000000000 ∧ Hid (tz x = j + tz r)) (fun _ v5 => (intOf v5).toNat)
      case atStart => exact ⟨0, x, by go_num, rfl, h0, hx, by omega, by omega, Lib.hid (by omega)⟩
      case round =>
        obtain ⟨j, r, rfl, rfl, hr0, hr, hj, hrj, HJ⟩ := hrel
        by_cases hm : r % 10 = 0
        · have hmB : ((r : Int) % 10 == 0) = true := by simp; omega
          have hj9 : j + 1 ≤ 9 := by
            rcases Nat.lt_or_ge j 9 with h | h
            · exact h
            · exfalso
              have : j = 9 := by omega
              rw [this] at hrj
              omega
          have hrj2 : r / 10 * 10 ^ (j + 1) ≤ 1000000000 := by
            rw [Nat.pow_succ, Nat.mul_comm (10 ^ j) 10, ← Nat.mul_assoc, show r / 10 * 10 = r by omega]; exact hrj
          have HJ2 := Lib.hid (show tz x = (j + 1) + tz (r / 10) by rw [HJ.out, tz_yes hr0 hm]; omega)
          have hr10 : 0 < r / 10 := by omega
          have hrlt : r / 10 < r := by omega
          clear hm hrj
          go_wp2
          go_round
          case rel => exact ⟨j + 1, r / 10, by go_num, by go_num, hr10, by omega, hj9, hrj2, HJ2⟩
          case measure => simp [intOf]; omega
        · have hmB : ((r : Int) % 10 == 0) = false := by simp; omega
          have hfin := HT.out
          rw [HJ.out, tz_no hm] at hfin
          have HFIN := Lib.hid hfin
          clear hfin hm
          go_wp2
          go_ret
          exact ⟨ret_int (by rw [HFIN.out]; omega), rfl⟩
end Go.Proofs.YtpgiljibicigeaaGreatDoor

/- Walks: the document's answer: trim, digit, Add, Shift. -/
namespace Go.Proofs.YtpgiljibicigeaaGreatDoor
open Go.RowKit LM

end Go.Proofs.YtpgiljibicigeaaGreatDoor

/- Walks: the document's answer: From, To; of, to. -/
namespace Go.Proofs.YtpgiljibicigeaaGreatDoor
open Go.RowKit LM

theorem dg10_le {l : List Nat} (hlo : Lo 4294967296 l) (k : Nat) : (dg 10 (vl 1000000000 (l.take k))).length ≤ 9 * (k + 1) := by
  refine dg_len_of_lt (by omega) ?_
  have h1 := vl_bound (l := l.take k) (fun z hz => hlo z (List.mem_of_mem_take hz))
  rw [show (1000000000 : Nat) = 10 ^ 9 by decide, ← Nat.pow_mul] at h1
  refine Nat.lt_of_lt_of_le (by rw [show (1000000000 : Nat) = 10 ^ 9 by decide]; exact h1) (Nat.pow_le_pow_right (by omega) ?_)
  have : (l.take k).length ≤ k := by rw [List.length_take]; exact Nat.min_le_left _ _
  omega

end Go.Proofs.YtpgiljibicigeaaGreatDoor
