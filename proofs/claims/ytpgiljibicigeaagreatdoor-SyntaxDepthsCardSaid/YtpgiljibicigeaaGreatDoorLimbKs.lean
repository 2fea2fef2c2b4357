/- Walks: Cut. -/
import Derived.Test.YtpgiljibicigeaaGreatDoorLimbGs
import Derived.Deep.RegionLaw
import Derived.Test.YtpgiljibicigeaaGreatDoorLimbMaths
set_option linter.unusedVariables false
set_option linter.unusedSimpArgs false
namespace Go.Proofs.YtpgiljibicigeaaGreatDoor
open Go.RowKit LM

theorem cut_step {Y D : List Nat} {u c p v : Nat} (hp : p < Y.length) (h : vl 1000000000 (Y.drop (p + 1)) = u * vl 1000000000 D + c) (hv : v = c * 1000000000 + Y[p]?.getD 0) :
    vl 1000000000 (Y.drop p) = u * vl 1000000000 (v / u :: D) + v % u := by
  rw [vl_drop_step hp, h]
  simp only [vl]
  have e := Nat.div_add_mod v u
  rw [Nat.mul_add u, Nat.mul_left_comm u]
  omega
theorem cut_low {u c y : Nat} (hc : c < u) (hy : y < 1000000000) : (c * 1000000000 + y) / u < 1000000000 := by
  rw [Nat.div_lt_iff_lt_mul (by omega)]
  have : (c + 1) * 1000000000 ≤ u * 1000000000 := Nat.mul_le_mul_right _ hc
  rw [Nat.mul_comm 1000000000 u]; omega
theorem cut_set {p v : Nat} {D : List Nat} : (List.replicate (p + 1) 0 ++ D).set p v = List.replicate p 0 ++ v :: D := by
  rw [List.set_append, if_pos (by simp)]
  have : (List.replicate (p + 1) 0).set p v = List.replicate p 0 ++ [v] := by
    rw [List.replicate_succ', List.set_append, if_neg (by simp)]; simp
  rw [this]; simp
theorem cut_all {X D : List Nat} {n k u c v : Nat} (hlo : Lo 1000000000 X) (hv : vl 1000000000 X = v) (hk : k = min (n / 9) X.length) (hu : u = 10 ^ (n % 9)) (hc : c < u) (h : vl 1000000000 (X.drop k) = u * vl 1000000000 D + c) :
    vl 1000000000 D = v / 10 ^ n ∧ vl 1000000000 (X.take k ++ [c]) = v % 10 ^ n := by
  have h1 := vl_drop (b := 1000000000) (l := X) (k := k) (by omega)
  rw [vl_append, vl_one, List.length_take, Nat.min_eq_left (by omega : k ≤ X.length)]
  have h2 := vl_lt (b := 1000000000) (l := X.take k) (fun z hz => hlo z (List.mem_of_mem_take hz))
  rw [List.length_take, Nat.min_eq_left (by omega : k ≤ X.length)] at h2
  rcases Nat.le_total (n / 9) X.length with h9 | h9
  · obtain rfl : k = n / 9 := by omega
    have hp := shift_pow n
    rw [← hu] at hp
    rw [hv, h, Nat.mul_add, ← Nat.mul_assoc, hp] at h1
    have hb : vl 1000000000 (X.take (n / 9)) + 1000000000 ^ (n / 9) * c < 10 ^ n := by
      have : 1000000000 ^ (n / 9) * (c + 1) ≤ 1000000000 ^ (n / 9) * u := Nat.mul_le_mul_left _ hc
      rw [hp, Nat.mul_add, Nat.mul_one] at this
      omega
    have e : v = (vl 1000000000 (X.take (n / 9)) + 1000000000 ^ (n / 9) * c) + 10 ^ n * vl 1000000000 D := by omega
    constructor
    · rw [e, Nat.add_mul_div_left _ _ (Nat.pow_pos (by omega)), Nat.div_eq_of_lt hb, Nat.zero_add]
    · rw [e, Nat.add_mul_mod_self_left, Nat.mod_eq_of_lt hb]
  · obtain rfl : k = X.length := by omega
    rw [List.drop_length, vl_nil] at h
    have hD : u * vl 1000000000 D = 0 := by omega
    have hc0 : c = 0 := by omega
    have hd0 : vl 1000000000 D = 0 := by
      rcases Nat.mul_eq_zero.1 hD with h3 | h3
      · omega
      · exact h3
    rw [List.take_length] at h2 ⊢
    subst hc0
    rw [hd0, Nat.mul_zero, Nat.add_zero, hv]
    rw [hv] at h2
    have hlt : v < 10 ^ n := by
      refine Nat.lt_of_lt_of_le h2 ?_
      rw [show (1000000000 : Nat) = 10 ^ 9 by decide, ← Nat.pow_mul]
      exact Nat.pow_le_pow_right (by omega) (by omega)
    exact ⟨(Nat.div_eq_of_lt hlt).symm, (Nat.mod_eq_of_lt hlt).symm⟩

set_option maxHeartbeats 8000000 in
set_option maxRecDepth 100000 in
theorem Cut_any (a : Option Addr) (cap : Nat) (l : List Nat) (n : Nat) (w : World) (hn : n ≤ 30000) (hl : l.length ≤ 536870912) (hlo : Lo 4294967296 l) (hrd : Rd w .u32 a l) :
    Calls Tryz.prog 137 #[.slice a l.length cap, .int .i64 n] w fun e w' => ∃ a1 c1 a2 c2, e = .returned (.tuple #[.slice a1 (dg 1000000000 (vl 1000000000 l / 10 ^ n)).length c1, .slice a2 (dg 1000000000 (vl 1000000000 l % 10 ^ n)).length c2, .int .i64 0]) ∧
      Own w' w.heap.size 141 .u32 a1 c1 (dg 1000000000 (vl 1000000000 l / 10 ^ n)) ∧ Own w' w.heap.size 141 .u32 a2 c2 (dg 1000000000 (vl 1000000000 l % 10 ^ n)) ∧ Below w.heap.size w w' := by
  have HLO := Lib.hid hlo
  have hn1 := nlen hlo
  clear hlo
  go_enter Tryz.func137, Tryz.ntmps137
  go_wp2_with fail
  refine (mayShift_yes n w hn).mono ?_
  rintro e w' ⟨rfl, rfl⟩
  go_wp2_with fail
  refine (Norm_any a cap l w (by omega) HLO.out hrd).mono ?_
  rintro e w1 ⟨a1, c1, rfl, hown1, hb1⟩
  have hlx := Lo_dg (b := 1000000000) (by omega) (vl 1000000000 l)
  have hvx := vl_dg (b := 1000000000) (by omega) (vl 1000000000 l)
  have HLX := Lib.hid hlx; have HVX := Lib.hid hvx
  clear hlx hvx hrd
  generalize dg 1000000000 (vl 1000000000 l) = X at *
  obtain ⟨k, hk⟩ : ∃ k, k = min (n / 9) X.length := ⟨_, rfl⟩
  have hkI : min ((n : Int) / 9) (X.length : Int) = (k : Int) := by omega
  have hk1 : k ≤ X.length := by omega
  have HK := Lib.hid hk
  clear hk
  go_wp2_with fail
  refine (tenTo_any (n % 9) w1 (by omega)).mono ?_
  rintro e w' ⟨u, HU, hu, rfl, rfl⟩
  have hu1 : 1 ≤ u := by rw [HU.out]; exact Nat.one_le_pow _ _ (by omega)
  have hrd1 := hown1.rd
  have HR1 := Lib.hid hrd1
  have HO1 := Lib.hid hown1
  clear hrd1 hown1
  go_wp2_with (at_make; refine wp_make _ rfl _ _ 125 rfl w1.heap.size 141 .u32 4 Tryz.underlying125 infoU32 _ _ _ _ (X.length - k) rfl rfl (by omega) (by omega) (by omega) (by unfold maxLen; omega) (Nat.le_refl _) ?_)
  intro w2 hown2 hb2
  clear hkI
  go_wp2_with fail
  go_loopw [11, 35] (fun v11 i wr => ∃ (j c : Nat) (D : List Nat), j ≤ X.length - k ∧ i = .int .i64 j ∧ v11 = .int .u32 c ∧ c < u ∧ Hid (D.length = j) ∧ Hid (Lo 1000000000 D) ∧
      Hid (vl 1000000000 ((X.drop k).drop (X.length - k - j)) = u * vl 1000000000 D + c) ∧ Own wr w1.heap.size 141 .u32 (some ⟨w1.heap.size, 0, none⟩) (X.length - k) (List.replicate (X.length - k - j) 0 ++ D) ∧ Below w1.heap.size w1 wr) (fun _ i _ => X.length - k - (intOf i).toNat)
  case atStart => exact ⟨0, 0, [], Nat.zero_le _, rfl, rfl, by omega, (rfl : ([] : List Nat).length = 0), Lo_nil _, (by rw [Nat.sub_zero, List.drop_of_length_le (by simp)]; simp [vl] : vl 1000000000 ((X.drop k).drop (X.length - k - 0)) = u * vl 1000000000 [] + 0), by rw [Nat.sub_zero, List.append_nil]; exact hown2, hb2⟩
  case round =>
    obtain ⟨j, c, D, hj, rfl, rfl, hc, HDL, HDLo, HV, hownr, hblr⟩ := hrel
    by_cases hlt : j < X.length - k
    · obtain ⟨b, off, y, e1, HY, hy, cy⟩ := (HR1.out.below hblr).get HLX.out (k + (X.length - k - 1 - j)) (by omega)
      have hdl := HDL.out
      have hlen : (List.replicate (X.length - k - j) 0 ++ D).length = X.length - k := by simp; omega
      have hcq := hownr.cell (X.length - k - 1 - j) (by omega)
      have hfr := hownr.frozen (X.length - k - 1 - j)
      have hlow := cut_low hc hy
      have hmod : (c * 1000000000 + y) % u < u := Nat.mod_lt _ (by omega)
      have hlowI : ((c : Int) * 1000000000 + (y : Int)) / (u : Int) < 1000000000 := by
        have : ((c : Int) * 1000000000 + (y : Int)) / (u : Int) = (((c * 1000000000 + y) / u : Nat) : Int) := by simp
        rw [this]; omega
      have hlowI0 : 0 ≤ ((c : Int) * 1000000000 + (y : Int)) / (u : Int) := by
        have : ((c : Int) * 1000000000 + (y : Int)) / (u : Int) = (((c * 1000000000 + y) / u : Nat) : Int) := by simp
        rw [this]; exact Int.natCast_nonneg _
      have hmodI : ((c : Int) * 1000000000 + (y : Int)) % (u : Int) < (u : Int) := by
        have : ((c : Int) * 1000000000 + (y : Int)) % (u : Int) = (((c * 1000000000 + y) % u : Nat) : Int) := by simp
        rw [this]; omega
      have hmodI0 : 0 ≤ ((c : Int) * 1000000000 + (y : Int)) % (u : Int) := by
        have : ((c : Int) * 1000000000 + (y : Int)) % (u : Int) = (((c * 1000000000 + y) % u : Nat) : Int) := by simp
        rw [this]; exact Int.natCast_nonneg _
      have HLEN := Lib.hid hlen
      clear hdl hlen
      subst e1
      have hown3 : ∀ yv : Int, yv = (((c * 1000000000 + y) / u : Nat) : Int) → Own (wr.setCell ⟨w1.heap.size, X.length - k - 1 - j, none⟩ (.int .u32 yv)) w1.heap.size 141 .u32 (some ⟨w1.heap.size, 0, none⟩) (X.length - k) (List.replicate (X.length - k - (j + 1)) 0 ++ (c * 1000000000 + y) / u :: D) := by
        intro yv hyv
        have := hownr.set' (X.length - k - 1 - j) _ hyv
        rw [show X.length - k - j = (X.length - k - (j + 1)) + 1 by omega, show X.length - k - 1 - j = X.length - k - (j + 1) by omega, cut_set] at this
        rw [show X.length - k - 1 - j = X.length - k - (j + 1) by omega]; exact this
      have hv3 : vl 1000000000 ((X.drop k).drop (X.length - k - (j + 1))) = u * vl 1000000000 ((c * 1000000000 + y) / u :: D) + (c * 1000000000 + y) % u := by
        refine cut_step (c := c) (by simp; omega) ?_ ?_
        · rw [show X.length - k - (j + 1) + 1 = X.length - k - j by omega]; exact HV.out
        · rw [HY.out, List.getElem?_drop, show k + (X.length - k - (j + 1)) = k + (X.length - k - 1 - j) by omega]
      have HO3 := Lib.hid hown3; have HV3 := Lib.hid hv3
      clear hown3 hv3
      go_wp2
      go_roundw
      case rel => exact ⟨j + 1, (c * 1000000000 + y) % u, (c * 1000000000 + y) / u :: D, by omega, by go_num, by simp, hmod, (by rw [List.length_cons, HDL.out] : ((c * 1000000000 + y) / u :: D).length = j + 1), (by intro z hz; rcases List.mem_cons.1 hz with rfl | hz; exact hlow; exact HDLo.out z hz : Lo 1000000000 ((c * 1000000000 + y) / u :: D)), HV3, HO3.out _ (by simp), hblr.setCell (Nat.le_refl _) _⟩
      case measure => simp [intOf]; omega
    · obtain rfl : j = X.length - k := by omega
      have hV := HV.out
      rw [Nat.sub_self, List.drop_zero] at hV
      rw [Nat.sub_self, List.replicate_zero, List.nil_append] at hownr
      obtain ⟨hq, hr⟩ := cut_all HLX.out HVX.out HK.out HU.out hc hV
      have htq : tr D = dg 1000000000 (vl 1000000000 l / 10 ^ n) := by rw [tr_eq (by omega) HDLo.out, hq]
      have htr : tr (X.take k ++ [c]) = dg 1000000000 (vl 1000000000 l % 10 ^ n) := by
        rw [tr_eq (by omega) (Lo_append (fun z hz => HLX.out z (List.mem_of_mem_take hz)) (Lo_one (by omega))), hr]
      have hTQ : ∀ wq, Rd wq .u32 (some ⟨w1.heap.size, 0, none⟩) D → Calls Tryz.prog 133 #[.slice (some ⟨w1.heap.size, 0, none⟩) (X.length - k) (X.length - k)] wq fun e w' => e = .returned (.slice (some ⟨w1.heap.size, 0, none⟩) (dg 1000000000 (vl 1000000000 l / 10 ^ n)).length (X.length - k)) ∧ wq = w' := by
        intro wq hrq
        have h := trim_any (some ⟨w1.heap.size, 0, none⟩) (X.length - k) D wq (by have := HDL.out; omega) hrq (by have := HDL.out; omega)
        rw [HDL.out, htq] at h; exact h
      have hownx := (HO1.out.below hblr).take k hk1
      have hlk : (X.take k).length = k := by simp; omega
      have HTQ := Lib.hid hTQ; have HLK := Lib.hid hlk; have HTR := Lib.hid htr; have HTQ0 := Lib.hid htq
      clear hTQ hlk htr htq hq hr hV
      have hbyt : ((X.take k).length + 1) * 4 ≤ 140737488355328 := by rw [HLK.out]; omega
      have hmx : (X.take k).length + 1 ≤ maxLen := by rw [HLK.out]; unfold maxLen; omega
      have HBY := Lib.hid hbyt; have HMX := Lib.hid hmx
      have hsz : w.heap.size ≤ wr.heap.size := Nat.le_trans hb1.size hblr.size
      have HRQ := Lib.hid hownr.rd
      have HOX := Lib.hid hownx; have HOQ := Lib.hid hownr
      clear hbyt hmx hownx hownr hown2 hb2
      have hT2 : ∀ a' c' w', Own w' w.heap.size 141 .u32 a' c' (X.take k ++ [c]) → Calls Tryz.prog 133 #[.slice a' (k + 1) c'] w' fun e w'' => e = .returned (.slice a' (dg 1000000000 (vl 1000000000 l % 10 ^ n)).length c') ∧ w' = w'' := by
        intro a' c' w' ho
        have hl2 : (X.take k ++ [c]).length = k + 1 := by rw [List.length_append, HLK.out]; rfl
        have h := trim_any a' c' _ w' (by rw [hl2]; omega) ho.rd ho.cap.1
        rw [hl2, HTR.out] at h; exact h
      have HT2 := Lib.hid hT2
      have hkc : k ≤ c1 := Nat.le_trans hk1 HO1.out.cap.1
      have hfin : ∀ (o : Obj) a' c' w', Own w' w.heap.size 141 .u32 a' c' (X.take k ++ [c]) → Below w.heap.size (wr.alloc o).drew w' → (wr.alloc o).drew.grownBy w' (Value.slice a1 k c1).ownBlock →
          Own w' w.heap.size 141 .u32 (some ⟨w1.heap.size, 0, none⟩) (X.length - k) (dg 1000000000 (vl 1000000000 l / 10 ^ n)) ∧ Own w' w.heap.size 141 .u32 a' c' (dg 1000000000 (vl 1000000000 l % 10 ^ n)) ∧ Below w.heap.size w w' := by
        intro o a' c' w' ho hb hg
        have hq1 : Own (wr.alloc o).drew w.heap.size 141 .u32 (some ⟨w1.heap.size, 0, none⟩) (X.length - k) D := ((HOQ.out.alloc o).drew).mono hb1.size
        have hq2 : Own w' w.heap.size 141 .u32 (some ⟨w1.heap.size, 0, none⟩) (X.length - k) D := by
          refine World.ownsRow.kept hq1 hg ?_
          right
          rcases HO1.out.shape with ⟨h1, _⟩ | ⟨g', h1, _, hl', _⟩
          · rw [h1]; simp [Value.ownBlock]
          · rw [h1]; simp [Value.ownBlock]; omega
        have hq3 := hq2.take (tr D).length (by have := tr_take D; rw [this]; simp; omega)
        have hr3 := ho.take (tr (X.take k ++ [c])).length (by have := tr_take (X.take k ++ [c]); rw [this]; simp; omega)
        rw [← tr_take, HTQ0.out] at hq3
        rw [← tr_take, HTR.out] at hr3
        exact ⟨hq3, hr3, (hb1.trans (hblr.mono hb1.size)).trans ((((Below.refl _ _).alloc hsz o).drew).trans hb)⟩
      have HFIN := Lib.hid hfin
      clear hT2 hfin
      go_wp2_with fail
      go_region_law (first
        | (refine step_push _ rfl _ _ 125 rfl w.heap.size 141 .u32 4 Tryz.underlying125 infoU32 a1 c1 k (X.take k) HLK.out.symm rfl c wr.heap.size rfl (by simp) (HOX.out.alloc _).drew HBY.out HMX.out (by simp; omega) ?_; intro ao' cap' w' hownr' hbr' hgr'; have hfin := HFIN.out _ _ _ _ hownr' hbr' hgr')
        | (go_simp; go_at_call 133; (with_reducible refine (HTQ.out _ HRQ.out.drew).mono ?_); rintro e w' ⟨rfl, rfl⟩)
        | (go_simp; go_at_call 133; (with_reducible refine (HTQ.out _ (HRQ.out.alloc _).drew).mono ?_); rintro e w' ⟨rfl, rfl⟩)
        | (go_simp; go_at_call 133; (with_reducible refine (HT2.out _ _ _ (by assumption)).mono ?_); rintro e w' ⟨rfl, rfl⟩))
      all_goals go_wp2
      all_goals go_ret3
      all_goals exact ⟨_, _, _, _, rfl, by assumption⟩
end Go.Proofs.YtpgiljibicigeaaGreatDoor

/- Plain mathematics: the school's division. Nothing of the program. -/
namespace Go.Proofs.YtpgiljibicigeaaGreatDoor.LM

/-! is t times y above a window? -/
/-! The bounds of a quotient's limb -/
/-! The rounds -/
end Go.Proofs.YtpgiljibicigeaaGreatDoor.LM

/- Plain mathematics: the highest limbs' bounds. Nothing of the program. -/
namespace Go.Proofs.YtpgiljibicigeaaGreatDoor.LM

end Go.Proofs.YtpgiljibicigeaaGreatDoor.LM
