/- Walks: Cut. -/
import Derived.Test.YtpgiljibicigeaaGreatDoorLimbGs
import Derived.Deep.RegionLaw
import Derived.Test.YtpgiljibicigeaaGreatDoorLimbMaths
set_option linter.unusedVariables false
set_option linter.unusedSimpArgs false
namespace Go.Proofs.YtpgiljibicigeaaGreatDoor
open Go.RowKit LM

theorem cut_step {Y D : List Nat} {u c p v : Nat} (hp : p < Y.length) (h : vl 1000000000 (Y.drop (p + 1)) = u * vl 1000000000 D + c) (hv : v = c * 1000000000 + Y[p]?.getD 0) :
    vl 1000000000 (Y.drop p) = u * vl 1000000000 (v / u :: D) + v % u := by
  rw [vl_drop_step hp, h]
  simp only [vl]
  have e := Nat.div_add_mod v u
  rw [Nat.mul_add u, Nat.mul_left_comm u]
  omega
theorem cut_low {u c y : Nat} (hc : c < u) (hy : y < 1000000000) : (c * 1000000000 + y) / u < 1000000000 := by
  rw [Nat.div_lt_iff_lt_mul (by omega)]
  have : (c + 1) * 1000000000 ≤ u * 1000000000 := Nat.mul_le_mul_right _ hc
  rw [Nat.mul_comm 1000000000 u]; omega
theorem cut_set {p v : Nat} {D : List Nat} : (List.replicate (p + 1) 0 ++ D).set p v = List.replicate p 0 ++ v :: D := by
  rw [List.set_append, if_pos (by simp)]
  have : (List.replicate (p + 1) 0).set p v = List.replicate p 0 ++ [v] := by
    rw [List.replicate_succ', List.set_append, if_neg (by simp)]; simp
  rw [this]; simp
theorem cut_all {X D : List Nat} {n k u c v : Nat} (hlo : Lo 1000000000 X) (hv : vl 1000000000 X = v) (hk : k = min (n / 9) X.length) (hu : u = 10 ^ (n % 9)) (hc : c < u) (h : vl 1000000000 (X.drop k) = u * vl 1000000000 D + c) :
    vl 1000000000 D = v / 10 ^ n ∧ vl 1000000000 (X.take k ++ [c]) = v % 10 ^ n := by
  have h1 := vl_drop (b := 1000000000) (l := X) (k := k) (by omega)
  rw [vl_append, vl_one, List.length_take, Nat.min_eq_left (by omega : k ≤ X.length)]
  have h2 := vl_lt (b := 1000000000) (l := X.take k) (fun z hz => hlo z (List.mem_of_mem_take hz))
  rw [List.length_take, Nat.min_eq_left (by omega : k ≤ X.length)] at h2
  rcases Nat.le_total (n / 9) X.length with h9 | h9
  · obtain rfl : k = n / 9 := by omega
    have hp := shift_pow n
    rw [← hu] at hp
    rw [hv, h, Nat.mul_add, ← Nat.mul_assoc, hp] at h1
    have hb : vl 1000000000 (X.take (n / 9)) + 1000000000 ^ (n / 9) * c < 10 ^ n := by
      have : 1000000000 ^ (n / 9) * (c + 1) ≤ 1000000000 ^ (n / 9) * u := Nat.mul_le_mul_left _ hc
      rw [hp, Nat.mul_add, Nat.mul_one] at this
      omega
    have e : v = (vl 1000000000 (X.take (n / 9)) + 1000000000 ^ (n / 9) * c) + 10 ^ n * vl 1000000000 D := by omega
    constructor
    · rw [e, Nat.add_mul_div_left _ _ (Nat.pow_pos (by omega)), Nat.div_eq_of_lt hb, Nat.zero_add]
    · rw [e, Nat.add_mul_mod_self_left, Nat.mod_eq_of_lt hb]
  · obtain rfl : k = X.length := by omega
    rw [List.drop_length, vl_nil] at h
    have hD : u * vl 1000000000 D = 0 := by omega
    have hc0 : c = 0 := by omega
    have hd0 : vl 1000000000 D = 0 := by
      rcases Nat.mul_eq_zero.1 hD with h3 | h3
      · omega
      · exact h3
    rw [List.take_length] at h2 ⊢
    subst hc0
    rw [hd0, Nat.mul_zero, Nat.add_zero, hv]
    rw [hv] at h2
    have hlt : v < 10 ^ n := by
      refine Nat.lt_of_lt_of_le h2 ?_
      rw [show (1000000000 : Nat) = 10 ^ 9 by decide, ← Nat.pow_mul]
      exact Nat.pow_le_pow_right (by omega) (by omega)
    exact ⟨(Nat.div_eq_of_lt hlt).symm, (Nat.mod_eq_of_lt hlt).symm⟩

set_option maxHeartbeats 1000000 in
theorem Cut_bad (a : Option Addr) (cap : Nat) (l : List Nat) (n : Int) (w : World) (hn : n < 0 ∨ 30000 < n) :
    Calls Tryz.prog 137 #[.slice a l.length cap, .int .i64 n] w fun e w' => e = .returned (.tuple #[.slice none 0 0, .slice none 0 0, .int .i64 1]) ∧ w = w' := by
  have hM := mayShift_no n w hn
  have HM := Lib.hid hM
  clear hM hn
  go_enter Tryz.func137, Tryz.ntmps137
  go_wp2_with fail
  refine HM.out.mono ?_
  rintro e w' ⟨rfl, rfl⟩
  go_wp2
  go_ret3
  exact ⟨rfl, rfl⟩

set_option maxHeartbeats 8000000 in
set_option maxRecDepth 100000 in
theorem Cut_any (a : Option Addr) (cap : Nat) (l : List Nat) (n : Nat) (w : World) (hn : n ≤ 30000) (hl : l.length ≤ 536870912) (hlo : Lo 4294967296 l) (hrd : Rd w .u32 a l) :
    Calls Tryz.prog 137 #[.slice a l.length cap, .int .i64 n] w fun e w' => ∃ a1 c1 a2 c2, e = .returned (.tuple #[.slice a1 (dg 1000000000 (vl 1000000000 l / 10 ^ n)).length c1, .slice a2 (dg 1000000000 (vl 1000000000 l % 10 ^ n)).length c2, .int .i64 0]) ∧
      Own w' w.heap.size 141 .u32 a1 c1 (dg 1000000000 (vl 1000000000 l / 10 ^ n)) ∧ Own w' w.heap.size 141 .u32 a2 c2 (dg 1000000000 (vl 1000000000 l % 10 ^ n)) ∧ Below w.heap.size w w' := by
  have HLO := Lib.hid hlo
  have hn1 := nlen hlo
  clear hlo
  go_enter Tryz.func137, Tryz.ntmps137
  go_wp2_with fail
  refine (mayShift_yes n w hn).mono ?_
  rintro e w' ⟨rfl, rfl⟩
  go_wp2_with fail
  refine (Norm_any a cap l w (by omega) HLO.out hrd).mono ?_
  rintro e w1 ⟨a1, c1, rfl, hown1, hb1⟩
  have hlx := Lo_dg (b := 1000000000) (by omega) (vl 1000000000 l)
  have hvx := vl_dg (b := 1000000000) (by omega) (vl 1000000000 l)
  have HLX := Lib.hid hlx; have HVX := Lib.hid hvx
  clear hlx hvx hrd
  generalize dg 1000000000 (vl 1000000000 l) = X at *
  obtain ⟨k, hk⟩ : ∃ k, k = min (n / 9) X.length := ⟨_, rfl⟩
  have hkI : min ((n : Int) / 9) (X.length : Int) = (k : Int) := by omega
  have hk1 : k ≤ X.length := by omega
  have HK := Lib.hid hk
  clear hk
  go_wp2_with fail
  refine (tenTo_any (n % 9) w1 (by omega)).mono ?_
  rintro e w' ⟨u, HU, hu, rfl, rfl⟩
  have hu1 : 1 ≤ u := by rw [HU.out]; exact Nat.one_le_pow _ _ (by omega)
  have hrd1 := hown1.rd
  have HR1 := Lib.hid hrd1
  have HO1 := Lib.hid hown1
  clear hrd1 hown1
  go_wp2_with (at_make; refine wp_make _ rfl _ _ 125 rfl w1.heap.size 141 .u32 4 Tryz.underlying125 infoU32 _ _ _ _ (X.length - k) rfl rfl (by omega) (by omega) (by omega) (by unfold maxLen; omega) (Nat.le_refl _) ?_)
  intro w2 hown2 hb2
  clear hkI
  go_wp2_with fail
  go_loopw [11, 35] (fun v11 i wr => ∃ (j c : Nat) (D : List Nat), j ≤ X.length - k ∧ i = .int .i64 j ∧ v11 = .int .u32 c ∧ c < u ∧ Hid (D.length = j) ∧ Hid (Lo 1000000000 D) ∧
      Hid (vl 1000000000 ((X.drop k).drop (X.length - k - j)) = u * vl 1000000000 D + c) ∧ Own wr w1.heap.size 141 .u32 (some ⟨w1.heap.size, 0, none⟩) (X.length - k) (List.replicate (X.length - k - j) 0 ++ D) ∧ Below w1.heap.size w1 wr) (fun _ i _ => X.length - k - (intOf i).toNat)
  case atStart => exact ⟨0, 0, [], Nat.zero_le _, rfl, rfl, by omega, (rfl : ([] : List Nat).length = 0), Lo_nil _, (by rw [Nat.sub_zero, List.drop_of_length_le (by simp)]; simp [vl] : vl 1000000000 ((X.drop k).drop (X.length - k - 0)) = u * vl 1000000000 [] + 0), by rw [Nat.sub_zero, List.append_nil]; exact hown2, hb2⟩
  case round =>
    obtain ⟨j, c, D, hj, rfl, rfl, hc, HDL, HDLo, HV, hownr, hblr⟩ := hrel
    by_cases hlt : j < X.length - k
    · obtain ⟨b, off, y, e1, HY, hy, cy⟩ := (HR1.out.below hblr).get HLX.out (k + (X.length - k - 1 - j)) (by omega)
      have hdl := HDL.out
      have hlen : (List.replicate (X.length - k - j) 0 ++ D).length = X.length - k := by simp; omega
      have hcq := hownr.cell (X.length - k - 1 - j) (by omega)
      have hfr := hownr.frozen (X.length - k - 1 - j)
      have hlow := cut_low hc hy
      have hmod : (c * 1000000000 + y) % u < u := Nat.mod_lt _ (by omega)
      have hlowI : ((c : Int) * 1000000000 + (y : Int)) / (u : Int) < 1000000000 := by
        have : ((c : Int) * 1000000000 + (y : Int)) / (u : Int) = (((c * 1000000000 + y) / u : Nat) : Int) := by simp
        rw [this]; omega
      have hlowI0 : 0 ≤ ((c : Int) * 1000000000 + (y : Int)) / (u : Int) := by
        have : ((c : Int) * 1000000000 + (y : Int)) / (u : Int) = (((c * 1000000000 + y) / u : Nat) : Int) := by simp
        rw [this]; exact Int.natCast_nonneg _
      have hmodI : ((c : Int) * 1000000000 + (y : Int)) % (u : Int) < (u : Int) := by
        have : ((c : Int) * 1000000000 + (y : Int)) % (u : Int) = (((c * 1000000000 + y) % u : Nat) : Int) := by simp
        rw [this]; omega
      have hmodI0 : 0 ≤ ((c : Int) * 1000000000 + (y : Int)) % (u : Int) := by
        have : ((c : Int) * 1000000000 + (y : Int)) % (u : Int) = (((c * 1000000000 + y) % u : Nat) : Int) := by simp
        rw [this]; exact Int.natCast_nonneg _
      have HLEN := Lib.hid hlen
      clear hdl hlen
      subst e1
      have hown3 : ∀ yv : Int, yv = (((c * 1000000000 + y) / u : Nat) : Int) → Own (wr.setCell ⟨w1.heap.size, X.length - k - 1 - j, none⟩ (.int .u32 yv)) w1.heap.size 141 .u32 (some ⟨w1.heap.size, 0, none⟩) (X.length - k) (List.replicate (X.length - k - (j + 1)) 0 ++ (c * 1000000000 + y) / u :: D) := by
        intro yv hyv
        have := hownr.set' (X.length - k - 1 - j) _ hyv
        rw [show X.length - k - j = (X.length - k - (j + 1)) + 1 by omega, show X.length - k - 1 - j = X.length - k - (j + 1) by omega, cut_set] at this
        rw [show X.length - k - 1 - j = X.length - k - (j + 1) by omega]; exact this
      have hv3 : vl 1000000000 ((X.drop k).drop (X.length - k - (j + 1))) = u * vl 1000000000 ((c * 1000000000 + y) / u :: D) + (c * 1000000000 + y) % u := by
        refine cut_step (c := c) (by simp; omega) ?_ ?_
        · rw [show X.length - k - (j + 1) + 1 = X.length - k - j by omega]; exact HV.out
        · rw [HY.out, List.getElem?_drop, show k + (X.length - k - (j + 1)) = k + (X.length - k - 1 - j) by omega]
      have HO3 := Lib.hid hown3; have HV3 := Lib.hid hv3
      clear hown3 hv3
      go_wp2
      go_roundw
      case rel => exact ⟨j + 1, (c * 1000000000 + y) % u, (c * 1000000000 + y) / u :: D, by omega, by go_num, by simp, hmod, (by rw [List.length_cons, HDL.out] : ((c * 1000000000 + y) / u :: D).length = j + 1), (by intro z hz; rcases List.mem_cons.1 hz with rfl | hz; exact hlow; exact HDLo.out z hz : Lo 1000000000 ((c * 1000000000 + y) / u :: D)), HV3, HO3.out _ (by simp), hblr.setCell (Nat.le_refl _) _⟩
      case measure => simp [intOf]; omega
    · obtain rfl : j = X.length - k := by omega
      have hV := HV.out
      rw [Nat.sub_self, List.drop_zero] at hV
      rw [Nat.sub_self, List.replicate_zero, List.nil_append] at hownr
      obtain ⟨hq, hr⟩ := cut_all HLX.out HVX.out HK.out HU.out hc hV
      have htq : tr D = dg 1000000000 (vl 1000000000 l / 10 ^ n) := by rw [tr_eq (by omega) HDLo.out, hq]
      have htr : tr (X.take k ++ [c]) = dg 1000000000 (vl 1000000000 l % 10 ^ n) := by
        rw [tr_eq (by omega) (Lo_append (fun z hz => HLX.out z (List.mem_of_mem_take hz)) (Lo_one (by omega))), hr]
      have hTQ : ∀ wq, Rd wq .u32 (some ⟨w1.heap.size, 0, none⟩) D → Calls Tryz.prog 133 #[.slice (some ⟨w1.heap.size, 0, none⟩) (X.length - k) (X.length - k)] wq fun e w' => e = .returned (.slice (some ⟨w1.heap.size, 0, none⟩) (dg 1000000000 (vl 1000000000 l / 10 ^ n)).length (X.length - k)) ∧ wq = w' := by
        intro wq hrq
        have h := trim_any (some ⟨w1.heap.size, 0, none⟩) (X.length - k) D wq (by have := HDL.out; omega) hrq (by have := HDL.out; omega)
        rw [HDL.out, htq] at h; exact h
      have hownx := (HO1.out.below hblr).take k hk1
      have hlk : (X.take k).length = k := by simp; omega
      have HTQ := Lib.hid hTQ; have HLK := Lib.hid hlk; have HTR := Lib.hid htr; have HTQ0 := Lib.hid htq
      clear hTQ hlk htr htq hq hr hV
      have hbyt : ((X.take k).length + 1) * 4 ≤ 140737488355328 := by rw [HLK.out]; omega
      have hmx : (X.take k).length + 1 ≤ maxLen := by rw [HLK.out]; unfold maxLen; omega
      have HBY := Lib.hid hbyt; have HMX := Lib.hid hmx
      have hsz : w.heap.size ≤ wr.heap.size := Nat.le_trans hb1.size hblr.size
      have HRQ := Lib.hid hownr.rd
      have HOX := Lib.hid hownx; have HOQ := Lib.hid hownr
      clear hbyt hmx hownx hownr hown2 hb2
      have hT2 : ∀ a' c' w', Own w' w.heap.size 141 .u32 a' c' (X.take k ++ [c]) → Calls Tryz.prog 133 #[.slice a' (k + 1) c'] w' fun e w'' => e = .returned (.slice a' (dg 1000000000 (vl 1000000000 l % 10 ^ n)).length c') ∧ w' = w'' := by
        intro a' c' w' ho
        have hl2 : (X.take k ++ [c]).length = k + 1 := by rw [List.length_append, HLK.out]; rfl
        have h := trim_any a' c' _ w' (by rw [hl2]; omega) ho.rd ho.cap.1
        rw [hl2, HTR.out] at h; exact h
      have HT2 := Lib.hid hT2
      have hkc : k ≤ c1 := Nat.le_trans hk1 HO1.out.cap.1
      have hfin : ∀ (o : Obj) a' c' w', Own w' w.heap.size 141 .u32 a' c' (X.take k ++ [c]) → Below w.heap.size (wr.alloc o).drew w' → (wr.alloc o).drew.grownBy w' (Value.slice a1 k c1).ownBlock →
          Own w' w.heap.size 141 .u32 (some ⟨w1.heap.size, 0, none⟩) (X.length - k) (dg 1000000000 (vl 1000000000 l / 10 ^ n)) ∧ Own w' w.heap.size 141 .u32 a' c' (dg 1000000000 (vl 1000000000 l % 10 ^ n)) ∧ Below w.heap.size w w' := by
        intro o a' c' w' ho hb hg
        have hq1 : Own (wr.alloc o).drew w.heap.size 141 .u32 (some ⟨w1.heap.size, 0, none⟩) (X.length - k) D := ((HOQ.out.alloc o).drew).mono hb1.size
        have hq2 : Own w' w.heap.size 141 .u32 (some ⟨w1.heap.size, 0, none⟩) (X.length - k) D := by
          refine World.ownsRow.kept hq1 hg ?_
          right
          rcases HO1.out.shape with ⟨h1, _⟩ | ⟨g', h1, _, hl', _⟩
          · rw [h1]; simp [Value.ownBlock]
          · rw [h1]; simp [Value.ownBlock]; omega
        have hq3 := hq2.take (tr D).length (by have := tr_take D; rw [this]; simp; omega)
        have hr3 := ho.take (tr (X.take k ++ [c])).length (by have := tr_take (X.take k ++ [c]); rw [this]; simp; omega)
        rw [← tr_take, HTQ0.out] at hq3
        rw [← tr_take, HTR.out] at hr3
        exact ⟨hq3, hr3, (hb1.trans (hblr.mono hb1.size)).trans ((((Below.refl _ _).alloc hsz o).drew).trans hb)⟩
      have HFIN := Lib.hid hfin
      clear hT2 hfin
      go_wp2_with fail
      go_region_law (first
        | (refine step_push _ rfl _ _ 125 rfl w.heap.size 141 .u32 4 Tryz.underlying125 infoU32 a1 c1 k (X.take k) HLK.out.symm rfl c wr.heap.size rfl (by simp) (HOX.out.alloc _).drew HBY.out HMX.out (by simp; omega) ?_; intro ao' cap' w' hownr' hbr' hgr'; have hfin := HFIN.out _ _ _ _ hownr' hbr' hgr')
        | (go_simp; go_at_call 133; (with_reducible refine (HTQ.out _ HRQ.out.drew).mono ?_); rintro e w' ⟨rfl, rfl⟩)
        | (go_simp; go_at_call 133; (with_reducible refine (HTQ.out _ (HRQ.out.alloc _).drew).mono ?_); rintro e w' ⟨rfl, rfl⟩)
        | (go_simp; go_at_call 133; (with_reducible refine (HT2.out _ _ _ (by assumption)).mono ?_); rintro e w' ⟨rfl, rfl⟩))
      all_goals go_wp2
      all_goals go_ret3
      all_goals exact ⟨_, _, _, _, rfl, by assumption⟩
end Go.Proofs.YtpgiljibicigeaaGreatDoor

/- Plain mathematics: the school's division. Nothing of the program. -/
namespace Go.Proofs.YtpgiljibicigeaaGreatDoor.LM

/-! is t times y above a window? -/
theorem above_snoc {E V : List Nat} {e v : Nat} (hE : Lo 1000000000 E) (hV : Lo 1000000000 V) (hl : E.length = V.length) :
    (vl 1000000000 (V ++ [v]) < vl 1000000000 (E ++ [e])) ↔ (v < e ∨ v = e ∧ vl 1000000000 V < vl 1000000000 E) := by
  rw [vl_append, vl_append, vl_one, vl_one, ← hl]
  have h1 := vl_lt hE
  have h2 := vl_lt hV
  rw [← hl] at h2
  generalize 1000000000 ^ E.length = p at *
  constructor
  · intro h
    rcases Nat.lt_trichotomy v e with h3 | h3 | h3
    · exact .inl h3
    · subst h3; exact .inr ⟨rfl, by omega⟩
    · exfalso
      have : p * (e + 1) ≤ p * v := Nat.mul_le_mul_left _ h3
      rw [Nat.mul_add, Nat.mul_one] at this; omega
  · rintro (h3 | ⟨rfl, h4⟩)
    · have : p * (v + 1) ≤ p * e := Nat.mul_le_mul_left _ h3
      rw [Nat.mul_add, Nat.mul_one] at this; omega
    · omega
theorem above_step {y E : List Nat} {t c k v : Nat} (hE : E.length = k) (hv : v = y[k]?.getD 0) (h : t * vl 1000000000 (y.take k) = vl 1000000000 E + 1000000000 ^ k * c) :
    t * vl 1000000000 (y.take (k + 1)) = vl 1000000000 (E ++ [(c + t * v) % 1000000000]) + 1000000000 ^ (k + 1) * ((c + t * v) / 1000000000) := by
  have hy : vl 1000000000 (y.take (k + 1)) = vl 1000000000 (y.take k) + 1000000000 ^ k * v := by
    rw [hv]
    rcases Nat.lt_or_ge k y.length with h1 | h1
    · rw [take_snoc y k h1, vl_append, vl_one, List.length_take, Nat.min_eq_left (by omega)]
    · rw [List.take_of_length_le (by omega), List.take_of_length_le (by omega)]; simp [h1]
  rw [hy, Nat.mul_add, h, vl_append, vl_one, hE, Nat.pow_succ]
  generalize 1000000000 ^ k = p at *
  have e1 : p * ((c + t * v) % 1000000000) + p * 1000000000 * ((c + t * v) / 1000000000) = p * c + p * (t * v) := by
    rw [Nat.mul_assoc, ← Nat.mul_add, Nat.mod_add_div, Nat.mul_add]
  rw [Nat.mul_left_comm t p v]
  omega
theorem above_end {y E : List Nat} {t c n : Nat} (hE : E.length = n) (hy : y.length ≤ n) (hlt : t * vl 1000000000 y < 1000000000 ^ n) (h : t * vl 1000000000 (y.take n) = vl 1000000000 E + 1000000000 ^ n * c) :
    vl 1000000000 E = t * vl 1000000000 y := by
  rw [List.take_of_length_le hy] at h
  rcases Nat.eq_zero_or_pos c with e | e
  · subst e; omega
  · have := Nat.le_mul_of_pos_right (1000000000 ^ n) e; omega

/-! The bounds of a quotient's limb -/
/-- the three highest places of a window, the two highest of a divisor: W is the window, y the divisor, s the place value -/
theorem bound_high {W y W3 b s : Nat} (hs : 0 < s) (hy : b * s ≤ y) (hW : W < (W3 + 1) * s) (hb : 0 < b) : W / y ≤ W3 / b := by
  rw [Nat.le_div_iff_mul_le hb]
  have h1 : W / y * y ≤ W := Nat.div_mul_le_self W y
  have h2 : W / y * b * s ≤ W / y * y := by rw [Nat.mul_assoc]; exact Nat.mul_le_mul_left _ hy
  have h3 : W / y * b * s < (W3 + 1) * s := by omega
  have := Nat.lt_of_mul_lt_mul_right h3
  omega
theorem bound_low {W y W3 b s : Nat} (hy0 : 0 < y) (hy : y ≤ (b + 1) * s) (hW : W3 * s ≤ W) : W3 / (b + 1) ≤ W / y := by
  rw [Nat.le_div_iff_mul_le hy0]
  have h1 : W3 / (b + 1) * y ≤ W3 / (b + 1) * ((b + 1) * s) := Nat.mul_le_mul_left _ hy
  have h2 : W3 / (b + 1) * (b + 1) ≤ W3 := Nat.div_mul_le_self _ _
  have h3 : W3 / (b + 1) * (b + 1) * s ≤ W3 * s := Nat.mul_le_mul_right _ h2
  rw [Nat.mul_assoc] at h3
  omega
theorem search_count {lo hi W y : Nat} (hy : 0 < y) (h1 : lo ≤ W / y) (h2 : W / y ≤ hi) : (List.range (hi - lo)).countP (fun i => !decide (W < (lo + i + 1) * y)) = W / y - lo := by
  have key : ∀ i, (!decide (W < (lo + i + 1) * y)) = decide (i < W / y - lo) := by
    intro i
    have e : (W < (lo + i + 1) * y) ↔ ¬ (i < W / y - lo) := by
      rw [← Nat.div_lt_iff_lt_mul hy]; omega
    by_cases h : i < W / y - lo
    · rw [decide_eq_false (fun h3 => (e.1 h3) h), decide_eq_true h]; rfl
    · rw [decide_eq_true (e.2 h), decide_eq_false h]; rfl
  rw [show (fun i => !decide (W < (lo + i + 1) * y)) = (fun i => decide (i < W / y - lo)) from funext key]
  have : ∀ n m, m ≤ n → (List.range n).countP (fun i => decide (i < m)) = m := by
    intro n m
    induction n with
    | zero => intro h; simp; omega
    | succ n ih =>
      intro h
      rw [List.range_succ, List.countP_append]
      rcases Nat.lt_or_ge n m with h3 | h3
      · have hm : m = n + 1 := by omega
        subst hm
        have : (List.range n).countP (fun i => decide (i < n + 1)) = n := by
          have h4 : (List.range n).countP (fun i => decide (i < n + 1)) = (List.range n).length := List.countP_eq_length.2 (by intro a ha; have := List.mem_range.1 ha; simp; omega)
          rw [h4, List.length_range]
        rw [this]; simp
      · rw [ih h3]; simp; omega
  exact this _ _ (by omega)

/-! The rounds -/
theorem vl_window {R : List Nat} {p m : Nat} (hlt : vl 1000000000 (R.drop p) < 1000000000 ^ m) : vl 1000000000 ((R.drop p).take m) = vl 1000000000 (R.drop p) := by
  rcases Nat.le_total m (R.drop p).length with h | h
  · have h1 := vl_drop (b := 1000000000) (l := R.drop p) (k := m) h
    rcases Nat.eq_zero_or_pos (vl 1000000000 ((R.drop p).drop m)) with e | e
    · rw [e] at h1; omega
    · have := Nat.le_mul_of_pos_right (1000000000 ^ m) e; omega
  · rw [List.take_of_length_le h]
theorem win_drop {R d : List Nat} {at_ : Nat} (h : at_ + d.length ≤ R.length) : (win R d at_).drop at_ = d ++ R.drop (at_ + d.length) := by
  unfold win
  rw [List.append_assoc, List.drop_append, List.drop_of_length_le (by simp; omega), List.nil_append, List.length_take, Nat.min_eq_left (by omega), Nat.sub_self, List.drop_zero]
theorem win_take {R d : List Nat} {at_ : Nat} (h : at_ ≤ R.length) : (win R d at_).take at_ = R.take at_ := by
  unfold win
  rw [List.append_assoc, List.take_append_of_le_length (by simp; omega), List.take_take, Nat.min_self]
/-- one round of the school's division -/
theorem div_round {X Y R D d : List Nat} {p m : Nat} (hm : Y.length = m) (hY : 0 < vl 1000000000 Y) (hYlo : Lo 1000000000 Y) (hRlo : Lo 1000000000 R) (hp : p + m + 1 ≤ R.length)
    (hr : vl 1000000000 (R.drop (p + 1)) < vl 1000000000 Y) (hX : vl 1000000000 X = vl 1000000000 R + vl 1000000000 Y * (1000000000 ^ (p + 1) * vl 1000000000 D))
    (hd : d.length = m + 1) (hdv : vl 1000000000 d = vl 1000000000 ((R.drop p).take (m + 1)) - vl 1000000000 ((R.drop p).take (m + 1)) / vl 1000000000 Y * vl 1000000000 Y) :
    vl 1000000000 ((R.drop p).take (m + 1)) / vl 1000000000 Y < 1000000000 ∧ vl 1000000000 ((win R d p).drop p) < vl 1000000000 Y ∧
    vl 1000000000 X = vl 1000000000 (win R d p) + vl 1000000000 Y * (1000000000 ^ p * vl 1000000000 (vl 1000000000 ((R.drop p).take (m + 1)) / vl 1000000000 Y :: D)) := by
  have hYb := vl_lt hYlo
  rw [hm] at hYb
  have hx0 : R[p]?.getD 0 < 1000000000 := Lo_get hRlo (by omega) p
  have hstep := vl_drop_step (X := R) (k := p) (by omega)
  have hWlt : vl 1000000000 (R.drop p) < 1000000000 * vl 1000000000 Y := by omega
  have hWb : vl 1000000000 (R.drop p) < 1000000000 ^ (m + 1) := by rw [Nat.pow_succ]; omega
  have hwin := vl_window hWb
  rw [hwin] at hdv ⊢
  generalize hWe : vl 1000000000 (R.drop p) = W at *
  have hq : W / vl 1000000000 Y < 1000000000 := by rw [Nat.div_lt_iff_lt_mul hY]; exact hWlt
  have hmod : vl 1000000000 d = W % vl 1000000000 Y := by
    have := Nat.div_add_mod W (vl 1000000000 Y); rw [Nat.mul_comm] at this; omega
  have hzero : vl 1000000000 (R.drop (p + d.length)) = 0 := by
    have h1 := vl_drop (b := 1000000000) (l := R.drop p) (k := m + 1) (by simp; omega)
    rw [hwin, hWe, List.drop_drop] at h1
    rw [hd]
    rcases Nat.eq_zero_or_pos (vl 1000000000 (R.drop (p + (m + 1)))) with e | e
    · exact e
    · have := Nat.le_mul_of_pos_right (1000000000 ^ (m + 1)) e
      have := Nat.pow_pos (n := m + 1) (show 0 < 1000000000 by omega); omega
  have hdrop : vl 1000000000 ((win R d p).drop p) = W % vl 1000000000 Y := by
    rw [win_drop (by omega), vl_append, hzero, Nat.mul_zero, Nat.add_zero, hmod]
  refine ⟨hq, by rw [hdrop]; exact Nat.mod_lt _ hY, ?_⟩
  have hR := vl_drop (b := 1000000000) (l := R) (k := p) (by omega)
  have hR' := vl_drop (b := 1000000000) (l := win R d p) (k := p) (by rw [win_length (by omega)]; omega)
  rw [win_take (by omega), hdrop] at hR'
  rw [hWe] at hR
  rw [hX, hR, hR']
  simp only [vl]
  have hdm := Nat.div_add_mod W (vl 1000000000 Y)
  rw [Nat.pow_succ]
  generalize 1000000000 ^ p = b at *
  generalize vl 1000000000 Y = Yv at *
  generalize vl 1000000000 D = Dv at *
  have e1 : b * W = b * (Yv * (W / Yv)) + b * (W % Yv) := by rw [← Nat.mul_add, hdm]
  have e2 : Yv * (b * (W / Yv + 1000000000 * Dv)) = b * (Yv * (W / Yv)) + Yv * (b * 1000000000 * Dv) := by
    rw [Nat.mul_add, Nat.mul_add, Nat.mul_left_comm Yv b, Nat.mul_assoc b]
  rw [e1, e2]
  omega
/-- the end of the school's division -/
theorem div_end {X Y R D : List Nat} (hY : 0 < vl 1000000000 Y) (hr : vl 1000000000 (R.drop 0) < vl 1000000000 Y) (hX : vl 1000000000 X = vl 1000000000 R + vl 1000000000 Y * (1000000000 ^ 0 * vl 1000000000 D)) :
    vl 1000000000 D = vl 1000000000 X / vl 1000000000 Y ∧ vl 1000000000 R = vl 1000000000 X % vl 1000000000 Y := by
  rw [List.drop_zero] at hr
  rw [Nat.pow_zero, Nat.one_mul] at hX
  constructor
  · rw [hX, Nat.add_mul_div_left _ _ hY, Nat.div_eq_of_lt hr, Nat.zero_add]
  · rw [hX, Nat.add_mul_mod_self_left, Nat.mod_eq_of_lt hr]
/-- the beginning -/
theorem div_start {X Y : List Nat} {m : Nat} (hm : Y.length = m + 1) (hX : Lo 1000000000 X) (hlen : m + 1 ≤ X.length) (hYtop : 1 ≤ Y[m]?.getD 0) :
    vl 1000000000 ((X ++ [0]).drop (X.length - m)) < vl 1000000000 Y := by
  rw [List.drop_append_of_le_length (by omega), vl_append, vl_one, Nat.mul_zero, Nat.add_zero]
  have h1 := vl_lt (b := 1000000000) (l := X.drop (X.length - m)) (fun z hz => hX z (List.mem_of_mem_drop hz))
  rw [List.length_drop, show X.length - (X.length - m) = m by omega] at h1
  have h2 := vl_drop (b := 1000000000) (l := Y) (k := m) (by omega)
  rw [vl_top hm] at h2
  have h3 := Nat.le_mul_of_pos_right (1000000000 ^ m) (show 0 < Y[m]?.getD 0 by omega)
  omega
end Go.Proofs.YtpgiljibicigeaaGreatDoor.LM

/- Plain mathematics: the highest limbs' bounds. Nothing of the program. -/
namespace Go.Proofs.YtpgiljibicigeaaGreatDoor.LM

theorem top2 {y : List Nat} {m : Nat} (h : y.length = m + 2) (hlo : Lo 1000000000 y) :
    ∃ r, r < 1000000000 ^ m ∧ vl 1000000000 y = r + 1000000000 ^ m * (y[m + 1]?.getD 0 * 1000000000 + y[m]?.getD 0) := by
  refine ⟨vl 1000000000 (y.take m), ?_, ?_⟩
  · have := vl_lt (b := 1000000000) (l := y.take m) (fun z hz => hlo z (List.mem_of_mem_take hz))
    rwa [List.length_take, Nat.min_eq_left (by omega)] at this
  · have h1 := vl_drop (b := 1000000000) (l := y) (k := m) (by omega)
    rw [vl_drop_step (by omega), vl_top (by omega)] at h1
    rw [h1, Nat.mul_comm 1000000000, Nat.add_comm (y[m]?.getD 0)]
theorem top3 {W : List Nat} {m : Nat} (h : W.length = m + 3) (hlo : Lo 1000000000 W) :
    ∃ r, r < 1000000000 ^ m ∧ vl 1000000000 W = r + 1000000000 ^ m * ((W[m + 2]?.getD 0 * 1000000000 + W[m + 1]?.getD 0) * 1000000000 + W[m]?.getD 0) := by
  refine ⟨vl 1000000000 (W.take m), ?_, ?_⟩
  · have := vl_lt (b := 1000000000) (l := W.take m) (fun z hz => hlo z (List.mem_of_mem_take hz))
    rwa [List.length_take, Nat.min_eq_left (by omega)] at this
  · have h1 := vl_drop (b := 1000000000) (l := W) (k := m) (by omega)
    rw [vl_drop_step (by omega), vl_drop_step (by omega), vl_top (by omega), show W[m + 1 + 1]? = W[m + 2]? from rfl] at h1
    rw [h1]
    congr 1
    congr 1
    omega
theorem bnd_many {y W : List Nat} {m : Nat} (hym : y.length = m + 2) (hWm : W.length = m + 3) (hyl : Lo 1000000000 y) (hWl : Lo 1000000000 W) (hlt : vl 1000000000 W < 1000000000 * vl 1000000000 y) (hy1 : 1 ≤ y[m + 1]?.getD 0)
    {W3 b : Nat} (hW3 : W3 = (W[m + 2]?.getD 0 * 1000000000 + W[m + 1]?.getD 0) * 1000000000 + W[m]?.getD 0) (hb : b = y[m + 1]?.getD 0 * 1000000000 + y[m]?.getD 0) :
    W3 / (b + 1) ≤ vl 1000000000 W / vl 1000000000 y ∧ vl 1000000000 W / vl 1000000000 y ≤ W3 / b ∧ W3 / b ≤ 1000000000 ∧ (y[m + 1]?.getD 0 ≤ 15 → W3 ≤ 18446744073709551615) := by
  obtain ⟨r, hr, hy⟩ := top2 hym hyl
  obtain ⟨r', hr', hW⟩ := top3 hWm hWl
  rw [← hb] at hy
  rw [← hW3] at hW
  have hz2 := Lo_get hyl (by omega) m
  have hx2 := Lo_get hWl (by omega) m
  have hb0 : 1000000000 ≤ b := by omega
  generalize 1000000000 ^ m = s at *
  have hs : 0 < s := by omega
  have e1 : b * s ≤ vl 1000000000 y := by rw [hy, Nat.mul_comm]; omega
  have e2 : vl 1000000000 y ≤ (b + 1) * s := by rw [hy, Nat.add_mul, Nat.mul_comm b s]; omega
  have e3 : W3 * s ≤ vl 1000000000 W := by rw [hW, Nat.mul_comm]; omega
  have e4 : vl 1000000000 W < (W3 + 1) * s := by rw [hW, Nat.add_mul, Nat.mul_comm W3 s]; omega
  have hW3b : W3 < 1000000000 * (b + 1) := by
    have h1 : W3 * s < 1000000000 * ((b + 1) * s) := by omega
    rw [← Nat.mul_assoc] at h1
    exact Nat.lt_of_mul_lt_mul_right h1
  have hy0 : 0 < vl 1000000000 y := by
    have := Nat.mul_pos (show 0 < b by omega) hs
    omega
  refine ⟨bound_low hy0 e2 e3, bound_high hs e1 e4 (by omega), ?_, ?_⟩
  · have : W3 < (1000000000 + 1) * b := by omega
    have := (Nat.div_lt_iff_lt_mul (show 0 < b by omega)).2 this
    omega
  · intro h15
    omega
theorem bnd_one {y W : List Nat} (hym : y.length = 1) (hWm : W.length = 2) (hyl : Lo 1000000000 y) (hWl : Lo 1000000000 W) (hlt : vl 1000000000 W < 1000000000 * vl 1000000000 y) (hy1 : 1 ≤ y[0]?.getD 0)
    {W3 b : Nat} (hW3 : W3 = (W[1]?.getD 0 * 1000000000 + W[0]?.getD 0) * 1000000000) (hb : b = y[0]?.getD 0 * 1000000000) :
    W3 / (b + 1) ≤ vl 1000000000 W / vl 1000000000 y ∧ vl 1000000000 W / vl 1000000000 y ≤ W3 / b ∧ W3 / b ≤ 1000000000 ∧ (y[0]?.getD 0 ≤ 15 → W3 ≤ 18446744073709551615) := by
  have hy : vl 1000000000 y = y[0]?.getD 0 := by
    have := vl_top (X := y) (h := 0) hym; rwa [List.drop_zero] at this
  have hW : vl 1000000000 W = W[1]?.getD 0 * 1000000000 + W[0]?.getD 0 := by
    have h1 := vl_drop_step (X := W) (k := 0) (by omega)
    rw [List.drop_zero, vl_top (X := W) (h := 1) hWm] at h1
    omega
  rw [← hy] at hb hy1
  rw [← hW] at hW3
  rw [← hy]
  have e : W3 / b = vl 1000000000 W / vl 1000000000 y := by rw [hW3, hb]; exact Nat.mul_div_mul_right _ _ (by omega)
  refine ⟨?_, by omega, ?_, ?_⟩
  · rw [← e]; exact Nat.div_le_div_left (by omega) (by omega)
  · rw [e]
    have := (Nat.div_lt_iff_lt_mul (show 0 < vl 1000000000 y by omega)).2 hlt
    omega
  · intro h; omega
theorem win_lt {Y R : List Nat} {p m : Nat} (hm : Y.length = m) (hYlo : Lo 1000000000 Y) (hRlo : Lo 1000000000 R) (hp : p < R.length) (hr : vl 1000000000 (R.drop (p + 1)) < vl 1000000000 Y) :
    vl 1000000000 ((R.drop p).take (m + 1)) < 1000000000 * vl 1000000000 Y := by
  have hYb := vl_lt hYlo
  rw [hm] at hYb
  have hx0 : R[p]?.getD 0 < 1000000000 := Lo_get hRlo (by omega) p
  have hstep := vl_drop_step (X := R) (k := p) (by omega)
  have hWlt : vl 1000000000 (R.drop p) < 1000000000 * vl 1000000000 Y := by omega
  have hWb : vl 1000000000 (R.drop p) < 1000000000 ^ (m + 1) := by rw [Nat.pow_succ]; omega
  rw [vl_window hWb]; exact hWlt
theorem Lo_window {R : List Nat} {p m : Nat} (h : Lo 1000000000 R) : Lo 1000000000 ((R.drop p).take m) := fun z hz => h z (List.mem_of_mem_drop (List.mem_of_mem_take hz))
theorem Lo_win {R d : List Nat} {p : Nat} (h : Lo 1000000000 R) (hd : Lo 1000000000 d) : Lo 1000000000 (win R d p) :=
  Lo_append (Lo_append (fun z hz => h z (List.mem_of_mem_take hz)) hd) (fun z hz => h z (List.mem_of_mem_drop hz))
end Go.Proofs.YtpgiljibicigeaaGreatDoor.LM
