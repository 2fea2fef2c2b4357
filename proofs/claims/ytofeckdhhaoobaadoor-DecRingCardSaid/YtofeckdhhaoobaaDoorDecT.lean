/- Walks of dec: withPower, withPoint, withoutSign, Text. -/
import Derived.Test.YtofeckdhhaoobaaDoorDecC
import Derived.Test.YtofeckdhhaoobaaDoorShelf
import Derived.Lib.ItoaLen
namespace Go.Proofs.YtofeckdhhaoobaaDoor
open Go.RowKit LM

def txt (l : List UInt8) : ByteArray := ⟨l.toArray⟩
theorem txt_size (l : List UInt8) : (txt l).size = l.length := by simp [txt, ByteArray.size]
theorem ba_ext {x y : ByteArray} (h : x.data.toList = y.data.toList) : x = y := by
  cases x with | mk a => cases y with | mk b => exact congrArg ByteArray.mk (Array.ext' h)
theorem ba_app (x y : ByteArray) : (x ++ y).data.toList = x.data.toList ++ y.data.toList := by simp
theorem txt_list (l : List UInt8) : (txt l).data.toList = l := rfl

def wpow (l : List UInt8) (h : Int) : List UInt8 := l.take 1 ++ (if 1 < l.length then 46 :: l.drop 1 else []) ++ 101 :: Lib.itoa h

set_option maxHeartbeats 4000000 in
theorem withPower_any (l : List UInt8) (h : Int) (w : World) (hl : 1 ≤ l.length) (hl2 : l.length ≤ 1000000) (h0 : -1000000 ≤ h) (h1 : h ≤ 1000000) (htab : Tab w) :
    Calls Tryd.prog 82 #[.string (txt l), .int .i64 h] w fun r w' => r = .returned (.string (txt (wpow l h))) ∧ Below w.heap.size w w' := by
  have hsz := txt_size l
  have HSZ := Lib.hid hsz
  have hI := fun W (hb : Below w.heap.size w W) => Tryd.strconv_Itoa h (by omega) (by omega) W (htab.below hb)
  have HI := Lib.hid hI
  clear hI hsz
  generalize hx : txt l = x at *
  have HX := Lib.hid hx
  clear hx
  by_cases hc : 1 < l.length
  · have hcB : 1 < x.size := by rw [HSZ.out]; exact hc
    have hmx : x.size ≤ 1000000 := by rw [HSZ.out]; exact hl2
    have hmn : 1 ≤ x.size := by rw [HSZ.out]; exact hl
    have hfin : x.extract 0 1 ++ ((⟨#[46]⟩ : ByteArray) ++ x.extract 1 x.size) ++ (⟨#[101]⟩ : ByteArray) ++ (⟨(Lib.itoa h).toArray⟩ : ByteArray) = txt (wpow l h) := by
      apply ba_ext
      have e : x.data.toList = l := by rw [← HX.out]; rfl
      simp only [ba_app, Lib.extract_data, e, txt_list, wpow, if_pos hc, HSZ.out]
      simp [List.take_of_length_le]
    have HF := Lib.hid hfin
    have hlen : (Lib.itoa h).length ≤ 21 := Lib.itoa_length_le h (by omega) (by omega)
    clear hfin hc
    go_enter Tryd.func82, Tryd.ntmps82
    go_wp2_with fail
    refine (HI.out w (Below.refl _ _)).mono ?_
    rintro r w1 ⟨rfl, k, os, rfl⟩
    go_wp2
    go_ret
    exact ⟨by rw [← HF.out]; rfl, Lib.below_grow w.heap.size w (Nat.le_refl _) k os⟩
  · have hcB : ¬ 1 < x.size := by rw [HSZ.out]; exact hc
    have hmx : x.size ≤ 1000000 := by rw [HSZ.out]; exact hl2
    have hmn : 1 ≤ x.size := by rw [HSZ.out]; exact hl
    have hfin : x.extract 0 1 ++ (⟨#[101]⟩ : ByteArray) ++ (⟨(Lib.itoa h).toArray⟩ : ByteArray) = txt (wpow l h) := by
      apply ba_ext
      have e : x.data.toList = l := by rw [← HX.out]; rfl
      simp only [ba_app, Lib.extract_data, e, txt_list, wpow, if_neg hc, HSZ.out]
      simp
    have HF := Lib.hid hfin
    have hlen : (Lib.itoa h).length ≤ 21 := Lib.itoa_length_le h (by omega) (by omega)
    clear hfin hc
    go_enter Tryd.func82, Tryd.ntmps82
    go_wp2_with fail
    refine (HI.out w (Below.refl _ _)).mono ?_
    rintro r w1 ⟨rfl, k, os, rfl⟩
    go_wp2
    go_ret
    exact ⟨by rw [← HF.out]; rfl, Lib.below_grow w.heap.size w (Nat.le_refl _) k os⟩

theorem repeat_one (c : UInt8) : ∀ m, Lib.repeatL (⟨#[c]⟩ : ByteArray).data.toList m = List.replicate m c := by
  intro m
  induction m with
  | zero => rfl
  | succ m ih => rw [Lib.repeatL, ih, List.replicate_succ]; rfl
def wpt (l : List UInt8) (b : Nat) : List UInt8 :=
  let p := List.replicate (b + 1 - l.length) 48 ++ l
  p.take (p.length - b) ++ 46 :: p.drop (p.length - b)

set_option maxHeartbeats 4000000 in
theorem withPoint_any (l : List UInt8) (b : Nat) (w : World) (hl2 : l.length ≤ 1000000) (hb : b ≤ 1000000) :
    Calls Tryd.prog 81 #[.string (txt l), .int .i64 b] w fun r w' => r = .returned (.string (txt (wpt l b))) ∧ Below w.heap.size w w' := by
  have hsz := txt_size l
  obtain ⟨m, hm⟩ : ∃ m, m = b + 1 - l.length := ⟨_, rfl⟩
  have hR := fun W => Tryd.strings_Repeat ⟨#[48]⟩ m W (by omega) (by simp [ByteArray.size]; omega)
  have hrep : (⟨(Lib.repeatL (⟨#[48]⟩ : ByteArray).data.toList m).toArray⟩ : ByteArray) = txt (List.replicate m 48) := by rw [repeat_one]; rfl
  rw [hrep] at hR
  have hsy := txt_size (List.replicate m 48)
  rw [List.length_replicate] at hsy
  have hv : wpt l b = (List.replicate m 48 ++ l).take ((List.replicate m 48 ++ l).length - b) ++ 46 :: (List.replicate m 48 ++ l).drop ((List.replicate m 48 ++ l).length - b) := by unfold wpt; rw [← hm]
  have HR := Lib.hid hR; have HSZ := Lib.hid hsz; have HSY := Lib.hid hsy; have HV := Lib.hid hv
  clear hR hrep hsz hsy hv
  generalize hx : txt l = x at *
  generalize hy : txt (List.replicate m 48) = y at *
  have hmx : x.size ≤ 1000000 := by rw [HSZ.out]; exact hl2
  have hmy : y.size ≤ 1000001 := by rw [HSY.out]; omega
  have hge : b + 1 ≤ y.size + x.size := by rw [HSZ.out, HSY.out]; omega
  have hmI : max 0 ((b : Int) + 1 - (x.size : Int)) = (m : Int) := by rw [HSZ.out]; omega
  have HX := Lib.hid hx; have HY := Lib.hid hy
  have hfin : (y ++ x).extract 0 (y.size + x.size - b) ++ (⟨#[46]⟩ : ByteArray) ++ (y ++ x).extract (y.size + x.size - b) (y.size + x.size) = txt (wpt l b) := by
    apply ba_ext
    have e1 : x.data.toList = l := by rw [← hx]; rfl
    have e2 : y.data.toList = List.replicate m 48 := by rw [← hy]; rfl
    have e3 : (List.replicate m (48 : UInt8) ++ l).length = y.size + x.size := by rw [List.length_append, List.length_replicate, HSZ.out, HSY.out]
    rw [txt_list, HV.out, e3]
    simp only [ba_app, Lib.extract_data, e1, e2]
    rw [List.drop_zero, Nat.sub_zero, List.take_of_length_le (l := List.drop (y.size + x.size - b) (List.replicate m 48 ++ l)) (by rw [List.length_drop, e3]; omega)]
    simp
  have HF := Lib.hid hfin
  clear hx hy hm hfin
  go_enter Tryd.func81, Tryd.ntmps81
  go_wp2_with fail
  refine (HR.out w).mono ?_
  rintro r w1 ⟨rfl, hb1⟩
  have q1 : IntKind.i64.wrap ((y.size : Int) + (x.size : Int) - (b : Int)) = (y.size : Int) + (x.size : Int) - (b : Int) := IntWalk.i64_in _ (by omega)
  have q2 : ((y.size : Int) + (x.size : Int) - (b : Int)).toNat = y.size + x.size - b := by omega
  go_wp2_with fail
  go_quiet (fail)
  go_wp2
  go_ret
  exact ⟨by rw [← HF.out]; rfl, bdN hb1 _⟩

def wos (l : List UInt8) (e : Int) : List UInt8 :=
  if 0 ≤ e ∧ e + l.length - 1 ≤ 20 then l ++ List.replicate e.toNat 48
  else if e < 0 ∧ -7 ≤ e + l.length - 1 then wpt l (-e).toNat
  else wpow l (e + l.length - 1)

set_option maxHeartbeats 4000000 in
theorem withoutSign_any (l : List UInt8) (e : Int) (w : World) (hl : 1 ≤ l.length) (hl2 : l.length ≤ 90000) (he : -900000 ≤ e) (he2 : e ≤ 900000) (htab : Tab w) :
    Calls Tryd.prog 48 #[.string (txt l), .int .i64 e] w fun r w' => r = .returned (.string (txt (wos l e))) ∧ Below w.heap.size w w' := by
  have hsz := txt_size l
  by_cases h0 : 0 ≤ e
  · by_cases h1 : e + l.length - 1 ≤ 20
    · obtain ⟨m, rfl⟩ : ∃ m : Nat, e = m := ⟨e.toNat, by omega⟩
      have hv : wos l m = l ++ List.replicate m 48 := by unfold wos; rw [if_pos ⟨h0, h1⟩, Int.toNat_natCast]
      have hR := fun W => Tryd.strings_Repeat ⟨#[48]⟩ m W (by omega) (by simp [ByteArray.size]; omega)
      have hrep : (⟨(Lib.repeatL (⟨#[48]⟩ : ByteArray).data.toList m).toArray⟩ : ByteArray) = txt (List.replicate m 48) := by rw [repeat_one]; rfl
      rw [hrep] at hR
      have hfin : txt l ++ txt (List.replicate m 48) = txt (wos l m) := by apply ba_ext; rw [hv]; simp [txt]
      have hsy := txt_size (List.replicate m 48)
      rw [List.length_replicate] at hsy
      have hI : (m : Int) + ((txt l).size : Int) - 1 ≤ 20 := by rw [hsz]; exact h1
      have hb1 : (txt l).size ≤ 900000 := by rw [hsz]; omega
      have hb2 : (txt (List.replicate m 48)).size ≤ 900000 := by rw [hsy]; omega
      have HR := Lib.hid hR; have HF := Lib.hid hfin
      clear hR hrep hfin hv hsz hsy
      generalize txt l = x at *
      generalize txt (List.replicate m 48) = y at *
      go_enter Tryd.func48, Tryd.ntmps48
      go_wp2_with fail
      refine (HR.out w).mono ?_
      rintro r w1 ⟨rfl, hb⟩
      go_wp2
      go_ret
      exact ⟨by rw [← HF.out]; rfl, hb⟩
    · have hv : wos l e = wpow l (e + l.length - 1) := by unfold wos; rw [if_neg (by omega), if_neg (by omega)]
      have hW := fun W (hb : Below w.heap.size w W) => withPower_any l (e + l.length - 1) W hl (by omega) (by omega) (by omega) (htab.below hb)
      have hI : ¬ e + ((txt l).size : Int) - 1 ≤ 20 := by rw [hsz]; exact h1
      have hb1 : (txt l).size ≤ 900000 := by rw [hsz]; omega
      have hE : e + (l.length : Int) - 1 = e + ((txt l).size : Int) - 1 := by rw [hsz]
      rw [← hv, hE] at hW
      have HW := Lib.hid hW
      clear hW hv hE hsz
      generalize txt l = x at *
      have hne : ¬ e < 0 := by omega
      go_enter Tryd.func48, Tryd.ntmps48
      go_wp2_with fail
      refine (HW.out w (Below.refl _ _)).mono ?_
      rintro r w1 ⟨rfl, hb⟩
      go_wp2
      go_ret
      exact ⟨rfl, hb⟩
  · by_cases h1 : -7 ≤ e + l.length - 1
    · obtain ⟨m, hm⟩ : ∃ m : Nat, -e = m := ⟨(-e).toNat, by omega⟩
      have hv : wos l e = wpt l m := by unfold wos; rw [if_neg (by omega), if_pos ⟨by omega, h1⟩, hm, Int.toNat_natCast]
      have hW := fun W => withPoint_any l m W (by omega) (by omega)
      have hI : -7 ≤ e + ((txt l).size : Int) - 1 := by rw [hsz]; exact h1
      have hb1 : (txt l).size ≤ 900000 := by rw [hsz]; omega
      rw [← hv] at hW
      have HW := Lib.hid hW
      clear hW hv hsz
      generalize txt l = x at *
      have hne : e < 0 := by omega
      go_enter Tryd.func48, Tryd.ntmps48
      go_wp2_with fail
      refine (HW.out w).mono ?_
      rintro r w1 ⟨rfl, hb⟩
      go_wp2
      go_ret
      exact ⟨rfl, hb⟩
    · have hv : wos l e = wpow l (e + l.length - 1) := by unfold wos; rw [if_neg (by omega), if_neg (by omega)]
      have hW := fun W (hb : Below w.heap.size w W) => withPower_any l (e + l.length - 1) W hl (by omega) (by omega) (by omega) (htab.below hb)
      have hI : ¬ -7 ≤ e + ((txt l).size : Int) - 1 := by rw [hsz]; exact h1
      have hb1 : (txt l).size ≤ 900000 := by rw [hsz]; omega
      have hE : e + (l.length : Int) - 1 = e + ((txt l).size : Int) - 1 := by rw [hsz]
      rw [← hv, hE] at hW
      have HW := Lib.hid hW
      clear hW hv hE hsz
      generalize txt l = x at *
      have hne : e < 0 := by omega
      go_enter Tryd.func48, Tryd.ntmps48
      go_wp2_with fail
      refine (HW.out w (Below.refl _ _)).mono ?_
      rintro r w1 ⟨rfl, hb⟩
      go_wp2
      go_ret
      exact ⟨rfl, hb⟩
end Go.Proofs.YtofeckdhhaoobaaDoor
