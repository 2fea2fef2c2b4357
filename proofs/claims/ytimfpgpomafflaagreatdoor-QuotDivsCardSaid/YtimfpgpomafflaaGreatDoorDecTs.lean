/- Walks of dec: withPower, withPoint, withoutSign, Text. -/
import Derived.Test.YtimfpgpomafflaaGreatDoorDecAs
import Derived.Test.YtimfpgpomafflaaGreatDoorShelf
import Derived.Lib.ItoaLen
import Derived.Test.YtimfpgpomafflaaGreatDoorLimbGs
import Derived.Test.YtimfpgpomafflaaGreatDoorDecEs
namespace Go.Proofs.YtimfpgpomafflaaGreatDoor
open Go.RowKit LM

def txt (l : List UInt8) : ByteArray := ⟨l.toArray⟩
theorem txt_size (l : List UInt8) : (txt l).size = l.length := by simp [txt, ByteArray.size]
theorem ba_ext {x y : ByteArray} (h : x.data.toList = y.data.toList) : x = y := by
  cases x with | mk a => cases y with | mk b => exact congrArg ByteArray.mk (Array.ext' h)
theorem ba_app (x y : ByteArray) : (x ++ y).data.toList = x.data.toList ++ y.data.toList := by simp
theorem txt_list (l : List UInt8) : (txt l).data.toList = l := rfl

def wpow (l : List UInt8) (h : Int) : List UInt8 := l.take 1 ++ (if 1 < l.length then 46 :: l.drop 1 else []) ++ 101 :: Lib.itoa h

set_option maxHeartbeats 4000000 in
theorem withPower_any (l : List UInt8) (h : Int) (w : World) (hl : 1 ≤ l.length) (hl2 : l.length ≤ 1000000) (h0 : -1000000 ≤ h) (h1 : h ≤ 1000000) (htab : Tab w) :
    Calls Tryz.prog 98 #[.string (txt l), .int .i64 h] w fun r w' => r = .returned (.string (txt (wpow l h))) ∧ Below w.heap.size w w' := by
  have hsz := txt_size l
  have HSZ := Lib.hid hsz
  have hI := fun W (hb : Below w.heap.size w W) => Tryz.strconv_Itoa h (by omega) (by omega) W (htab.below hb)
  have HI := Lib.hid hI
  clear hI hsz
  generalize hx : txt l = x at *
  have HX := Lib.hid hx
  clear hx
  by_cases hc : 1 < l.length
  · have hcB : 1 < x.size := by rw [HSZ.out]; exact hc
    have hmx : x.size ≤ 1000000 := by rw [HSZ.out]; exact hl2
    have hmn : 1 ≤ x.size := by rw [HSZ.out]; exact hl
    have hfin : x.extract 0 1 ++ ((⟨#[46]⟩ : ByteArray) ++ x.extract 1 x.size) ++ (⟨#[101]⟩ : ByteArray) ++ (⟨(Lib.itoa h).toArray⟩ : ByteArray) = txt (wpow l h) := by
      apply ba_ext
      have e : x.data.toList = l := by rw [← HX.out]; rfl
      simp only [ba_app, Lib.extract_data, e, txt_list, wpow, if_pos hc, HSZ.out]
      simp [List.take_of_length_le]
    have HF := Lib.hid hfin
    have hlen : (Lib.itoa h).length ≤ 21 := Lib.itoa_length_le h (by omega) (by omega)
    clear hfin hc
    go_enter Tryz.func98, Tryz.ntmps98
    go_wp2_with fail
    refine (HI.out w (Below.refl _ _)).mono ?_
    rintro r w1 ⟨rfl, k, os, rfl⟩
    go_wp2
    go_ret
    exact ⟨by rw [← HF.out]; rfl, Lib.below_grow w.heap.size w (Nat.le_refl _) k os⟩
  · have hcB : ¬ 1 < x.size := by rw [HSZ.out]; exact hc
    have hmx : x.size ≤ 1000000 := by rw [HSZ.out]; exact hl2
    have hmn : 1 ≤ x.size := by rw [HSZ.out]; exact hl
    have hfin : x.extract 0 1 ++ (⟨#[101]⟩ : ByteArray) ++ (⟨(Lib.itoa h).toArray⟩ : ByteArray) = txt (wpow l h) := by
      apply ba_ext
      have e : x.data.toList = l := by rw [← HX.out]; rfl
      simp only [ba_app, Lib.extract_data, e, txt_list, wpow, if_neg hc, HSZ.out]
      simp
    have HF := Lib.hid hfin
    have hlen : (Lib.itoa h).length ≤ 21 := Lib.itoa_length_le h (by omega) (by omega)
    clear hfin hc
    go_enter Tryz.func98, Tryz.ntmps98
    go_wp2_with fail
    refine (HI.out w (Below.refl _ _)).mono ?_
    rintro r w1 ⟨rfl, k, os, rfl⟩
    go_wp2
    go_ret
    exact ⟨by rw [← HF.out]; rfl, Lib.below_grow w.heap.size w (Nat.le_refl _) k os⟩

theorem repeat_one (c : UInt8) : ∀ m, Lib.repeatL (⟨#[c]⟩ : ByteArray).data.toList m = List.replicate m c := by
  intro m
  induction m with
  | zero => rfl
  | succ m ih => rw [Lib.repeatL, ih, List.replicate_succ]; rfl
def wpt (l : List UInt8) (b : Nat) : List UInt8 :=
  let p := List.replicate (b + 1 - l.length) 48 ++ l
  p.take (p.length - b) ++ 46 :: p.drop (p.length - b)

set_option maxHeartbeats 4000000 in
theorem withPoint_any (l : List UInt8) (b : Nat) (w : World) (hl2 : l.length ≤ 1000000) (hb : b ≤ 1000000) :
    Calls Tryz.prog 97 #[.string (txt l), .int .i64 b] w fun r w' => r = .returned (.string (txt (wpt l b))) ∧ Below w.heap.size w w' := by
  have hsz := txt_size l
  obtain ⟨m, hm⟩ : ∃ m, m = b + 1 - l.length := ⟨_, rfl⟩
  have hR := fun W => Tryz.strings_Repeat ⟨#[48]⟩ m W (by omega) (by simp [ByteArray.size]; omega)
  have hrep : (⟨(Lib.repeatL (⟨#[48]⟩ : ByteArray).data.toList m).toArray⟩ : ByteArray) = txt (List.replicate m 48) := by rw [repeat_one]; rfl
  rw [hrep] at hR
  have hsy := txt_size (List.replicate m 48)
  rw [List.length_replicate] at hsy
  have hv : wpt l b = (List.replicate m 48 ++ l).take ((List.replicate m 48 ++ l).length - b) ++ 46 :: (List.replicate m 48 ++ l).drop ((List.replicate m 48 ++ l).length - b) := by unfold wpt; rw [← hm]
  have HR := Lib.hid hR; have HSZ := Lib.hid hsz; have HSY := Lib.hid hsy; have HV := Lib.hid hv
  clear hR hrep hsz hsy hv
  generalize hx : txt l = x at *
  generalize hy : txt (List.replicate m 48) = y at *
  have hmx : x.size ≤ 1000000 := by rw [HSZ.out]; exact hl2
  have hmy : y.size ≤ 1000001 := by rw [HSY.out]; omega
  have hge : b + 1 ≤ y.size + x.size := by rw [HSZ.out, HSY.out]; omega
  have hmI : max 0 ((b : Int) + 1 - (x.size : Int)) = (m : Int) := by rw [HSZ.out]; omega
  have HX := Lib.hid hx; have HY := Lib.hid hy
  have hfin : (y ++ x).extract 0 (y.size + x.size - b) ++ (⟨#[46]⟩ : ByteArray) ++ (y ++ x).extract (y.size + x.size - b) (y.size + x.size) = txt (wpt l b) := by
    apply ba_ext
    have e1 : x.data.toList = l := by rw [← hx]; rfl
    have e2 : y.data.toList = List.replicate m 48 := by rw [← hy]; rfl
    have e3 : (List.replicate m (48 : UInt8) ++ l).length = y.size + x.size := by rw [List.length_append, List.length_replicate, HSZ.out, HSY.out]
    rw [txt_list, HV.out, e3]
    simp only [ba_app, Lib.extract_data, e1, e2]
    rw [List.drop_zero, Nat.sub_zero, List.take_of_length_le (l := List.drop (y.size + x.size - b) (List.replicate m 48 ++ l)) (by rw [List.length_drop, e3]; omega)]
    simp
  have HF := Lib.hid hfin
  clear hx hy hm hfin
  go_enter Tryz.func97, Tryz.ntmps97
  go_wp2_with fail
  refine (HR.out w).mono ?_
  rintro r w1 ⟨rfl, hb1⟩
  have q1 : IntKind.i64.wrap ((y.size : Int) + (x.size : Int) - (b : Int)) = (y.size : Int) + (x.size : Int) - (b : Int) := IntWalk.i64_in _ (by omega)
  have q2 : ((y.size : Int) + (x.size : Int) - (b : Int)).toNat = y.size + x.size - b := by omega
  go_wp2_with fail
  go_quiet (fail)
  go_wp2
  go_ret
  exact ⟨by rw [← HF.out]; rfl, bdN hb1 _⟩

def wos (l : List UInt8) (e : Int) : List UInt8 :=
  if 0 ≤ e ∧ e + l.length - 1 ≤ 20 then l ++ List.replicate e.toNat 48
  else if e < 0 ∧ -7 ≤ e + l.length - 1 then wpt l (-e).toNat
  else wpow l (e + l.length - 1)

set_option maxHeartbeats 4000000 in
theorem withoutSign_any (l : List UInt8) (e : Int) (w : World) (hl : 1 ≤ l.length) (hl2 : l.length ≤ 90000) (he : -900000 ≤ e) (he2 : e ≤ 900000) (htab : Tab w) :
    Calls Tryz.prog 66 #[.string (txt l), .int .i64 e] w fun r w' => r = .returned (.string (txt (wos l e))) ∧ Below w.heap.size w w' := by
  have hsz := txt_size l
  by_cases h0 : 0 ≤ e
  · by_cases h1 : e + l.length - 1 ≤ 20
    · obtain ⟨m, rfl⟩ : ∃ m : Nat, e = m := ⟨e.toNat, by omega⟩
      have hv : wos l m = l ++ List.replicate m 48 := by unfold wos; rw [if_pos ⟨h0, h1⟩, Int.toNat_natCast]
      have hR := fun W => Tryz.strings_Repeat ⟨#[48]⟩ m W (by omega) (by simp [ByteArray.size]; omega)
      have hrep : (⟨(Lib.repeatL (⟨#[48]⟩ : ByteArray).data.toList m).toArray⟩ : ByteArray) = txt (List.replicate m 48) := by rw [repeat_one]; rfl
      rw [hrep] at hR
      have hfin : txt l ++ txt (List.replicate m 48) = txt (wos l m) := by apply ba_ext; rw [hv]; simp [txt]
      have hsy := txt_size (List.replicate m 48)
      rw [List.length_replicate] at hsy
      have hI : (m : Int) + ((txt l).size : Int) - 1 ≤ 20 := by rw [hsz]; exact h1
      have hb1 : (txt l).size ≤ 900000 := by rw [hsz]; omega
      have hb2 : (txt (List.replicate m 48)).size ≤ 900000 := by rw [hsy]; omega
      have HR := Lib.hid hR; have HF := Lib.hid hfin
      clear hR hrep hfin hv hsz hsy
      generalize txt l = x at *
      generalize txt (List.replicate m 48) = y at *
      go_enter Tryz.func66, Tryz.ntmps66
      go_wp2_with fail
      refine (HR.out w).mono ?_
      rintro r w1 ⟨rfl, hb⟩
      go_wp2
      go_ret
      exact ⟨by rw [← HF.out]; rfl, hb⟩
    · have hv : wos l e = wpow l (e + l.length - 1) := by unfold wos; rw [if_neg (by omega), if_neg (by omega)]
      have hW := fun W (hb : Below w.heap.size w W) => withPower_any l (e + l.length - 1) W hl (by omega) (by omega) (by omega) (htab.below hb)
      have hI : ¬ e + ((txt l).size : Int) - 1 ≤ 20 := by rw [hsz]; exact h1
      have hb1 : (txt l).size ≤ 900000 := by rw [hsz]; omega
      have hE : e + (l.length : Int) - 1 = e + ((txt l).size : Int) - 1 := by rw [hsz]
      rw [← hv, hE] at hW
      have HW := Lib.hid hW
      clear hW hv hE hsz
      generalize txt l = x at *
      have hne : ¬ e < 0 := by omega
      go_enter Tryz.func66, Tryz.ntmps66
      go_wp2_with fail
      refine (HW.out w (Below.refl _ _)).mono ?_
      rintro r w1 ⟨rfl, hb⟩
      go_wp2
      go_ret
      exact ⟨rfl, hb⟩
  · by_cases h1 : -7 ≤ e + l.length - 1
    · obtain ⟨m, hm⟩ : ∃ m : Nat, -e = m := ⟨(-e).toNat, by omega⟩
      have hv : wos l e = wpt l m := by unfold wos; rw [if_neg (by omega), if_pos ⟨by omega, h1⟩, hm, Int.toNat_natCast]
      have hW := fun W => withPoint_any l m W (by omega) (by omega)
      have hI : -7 ≤ e + ((txt l).size : Int) - 1 := by rw [hsz]; exact h1
      have hb1 : (txt l).size ≤ 900000 := by rw [hsz]; omega
      rw [← hv] at hW
      have HW := Lib.hid hW
      clear hW hv hsz
      generalize txt l = x at *
      have hne : e < 0 := by omega
      go_enter Tryz.func66, Tryz.ntmps66
      go_wp2_with fail
      refine (HW.out w).mono ?_
      rintro r w1 ⟨rfl, hb⟩
      go_wp2
      go_ret
      exact ⟨rfl, hb⟩
    · have hv : wos l e = wpow l (e + l.length - 1) := by unfold wos; rw [if_neg (by omega), if_neg (by omega)]
      have hW := fun W (hb : Below w.heap.size w W) => withPower_any l (e + l.length - 1) W hl (by omega) (by omega) (by omega) (htab.below hb)
      have hI : ¬ -7 ≤ e + ((txt l).size : Int) - 1 := by rw [hsz]; exact h1
      have hb1 : (txt l).size ≤ 900000 := by rw [hsz]; omega
      have hE : e + (l.length : Int) - 1 = e + ((txt l).size : Int) - 1 := by rw [hsz]
      rw [← hv, hE] at hW
      have HW := Lib.hid hW
      clear hW hv hE hsz
      generalize txt l = x at *
      have hne : e < 0 := by omega
      go_enter Tryz.func66, Tryz.ntmps66
      go_wp2_with fail
      refine (HW.out w (Below.refl _ _)).mono ?_
      rintro r w1 ⟨rfl, hb⟩
      go_wp2
      go_ret
      exact ⟨rfl, hb⟩
end Go.Proofs.YtimfpgpomafflaaGreatDoor

/- Walk of dec.Text. -/
namespace Go.Proofs.YtimfpgpomafflaaGreatDoor
open Go.RowKit LM

def wtx (A : Ans) : List UInt8 := if A.err = 0 then (if A.p.neg then 45 :: wos (Lib.decDigits A.p.m) A.p.e else wos (Lib.decDigits A.p.m) A.p.e) else []

theorem dec_len2 (v : Nat) : (Lib.decDigits v).length = max 1 (dg 10 v).length := by
  rw [dec_text]
  by_cases h : v = 0
  · rw [if_pos h, h, dg_zero]; rfl
  · rw [if_neg h, List.length_map, List.length_reverse]
    have : (dg 10 v).length ≠ 0 := by rw [dg_pos (by omega) (by omega)]; simp
    omega

theorem wos_len (l : List UInt8) (e : Int) (h : l.length ≤ 90000) (h1 : -900000 ≤ e) (h2 : e ≤ 900000) : (wos l e).length ≤ 2000000 := by
  unfold wos
  split
  · simp; omega
  · split
    · unfold wpt; simp; omega
    · have := Lib.itoa_length_le (e + l.length - 1) (by omega) (by omega)
      unfold wpow; simp; split <;> simp <;> omega

set_option maxHeartbeats 4000000 in
theorem DText_any (s : Bool) (a : Option Addr) (c : Nat) (l : List Nat) (e : Int) (w : World) (hl : l.length ≤ 9223372036854775807) (hlo : Lo 4294967296 l) (hrd : Rd w .u32 a l) (htab : Tab w) :
    Calls Tryz.prog 33 #[.agg #[.bool s, .slice a l.length c, .int .i64 e]] w fun r w' => r = .returned (.tuple #[.string (txt (wtx (normA l.length s (vl 1000000000 l) e))), .int .i64 ((normA l.length s (vl 1000000000 l) e).err : Nat)]) ∧ Below w.heap.size w w' := by
  have hT := fun W hb => DNorm_any s a c l e W hl hlo (hrd.below' (w' := W) hb (Nat.le_refl _)) (htab.below hb)
  obtain ⟨hd, he1, he2⟩ := inR_bounds (normA_in l.length s (vl 1000000000 l) e)
  have hq : (dg 1000000000 (normA l.length s (vl 1000000000 l) e).p.m).length ≤ 1073741824 := by
    have := dg_len_9 (normA l.length s (vl 1000000000 l) e).p.m
    unfold dl at hd; omega
  have hdl : (Lib.decDigits (normA l.length s (vl 1000000000 l) e).p.m).length ≤ 401 := by rw [dec_len2]; unfold dl at hd; omega
  have hpos : 1 ≤ (Lib.decDigits (normA l.length s (vl 1000000000 l) e).p.m).length := by rw [dec_len2]; omega
  generalize normA l.length s (vl 1000000000 l) e = A at *
  have HT := Lib.hid hT; have HTAB := Lib.hid htab
  clear hT hlo hrd htab
  have hv := vl_dg (b := 1000000000) (by omega) A.p.m
  have hL := fun a1 c1 W hr ht => Text_any a1 c1 (dg 1000000000 A.p.m) W hq (Lo_mono (Lo_dg (by omega) _) (by omega)) hr ht
  rw [hv] at hL
  have HL := Lib.hid hL
  have hW := fun W ht => withoutSign_any (Lib.decDigits A.p.m) A.p.e W hpos (by omega) (by omega) (by omega) ht
  have HW := Lib.hid hW
  clear hL hW hv
  go_enter Tryz.func33, Tryz.ntmps33
  go_wp2_with fail
  refine (HT.out _ ((Below.refl _ _).alloc (Nat.le_refl _) _)).mono ?_
  rintro r w2 ⟨a1, c1, rfl, ho1, hb1⟩
  have bb := ((Below.refl w.heap.size w).alloc (Nat.le_refl _) (.cells #[.bool s, .slice a l.length c, .int .i64 e] 24)).trans (hb1.mono (by simp))
  by_cases h0 : A.err = 0
  · have hB : ((A.err : Int) != 0) = false := by simp [h0]
    have HE := Lib.hid h0
    clear h0
    go_wp2_with fail
    have b2 := bb.alloc bb.size (.cells #[.bool A.p.neg, .slice a1 (dg 1000000000 A.p.m).length c1, .int .i64 A.p.e] 24)
    have k0 : (w2.alloc (.cells #[.bool A.p.neg, .slice a1 (dg 1000000000 A.p.m).length c1, .int .i64 A.p.e] 24)).cell? ⟨w2.heap.size, 0, none⟩ = some (.bool A.p.neg) := by simp
    have k1 : (w2.alloc (.cells #[.bool A.p.neg, .slice a1 (dg 1000000000 A.p.m).length c1, .int .i64 A.p.e] 24)).cell? ⟨w2.heap.size, 1, none⟩ = some (.slice a1 (dg 1000000000 A.p.m).length c1) := by simp
    have k2 : (w2.alloc (.cells #[.bool A.p.neg, .slice a1 (dg 1000000000 A.p.m).length c1, .int .i64 A.p.e] 24)).cell? ⟨w2.heap.size, 2, none⟩ = some (.int .i64 A.p.e) := by simp
    have hR1 := (ho1.rd).below' (w' := w2.alloc (.cells #[.bool A.p.neg, .slice a1 (dg 1000000000 A.p.m).length c1, .int .i64 A.p.e] 24)) ((Below.refl w2.heap.size w2).alloc (Nat.le_refl _) _) (Nat.le_refl _)
    have HR1 := Lib.hid hR1
    clear ho1 hb1 bb hR1
    generalize w2.alloc (.cells #[.bool A.p.neg, .slice a1 (dg 1000000000 A.p.m).length c1, .int .i64 A.p.e] 24) = w3 at *
    have HTL := Lib.hid (fun W hb => HL.out a1 c1 W (HR1.out.below (w' := W) hb) (HTAB.out.below (w' := W) (b2.trans (hb.mono b2.size))))
    have HTW := Lib.hid (fun W (hb : Below w3.heap.size w3 W) => HW.out W (HTAB.out.below (w' := W) (b2.trans (hb.mono b2.size))))
    go_region_held3 (fun w' => w'.cell? ⟨w2.heap.size, 0, none⟩ = some (.bool A.p.neg) ∧ w'.cell? ⟨w2.heap.size, 1, none⟩ = some (.slice a1 (dg 1000000000 A.p.m).length c1) ∧ w'.cell? ⟨w2.heap.size, 2, none⟩ = some (.int .i64 A.p.e)) (first | go_keep | exact ⟨j0, j1, j2⟩ | exact ⟨i0, i1, i2⟩)
      (first
        | (go_at_call 67; refine (HTL.out _ (Below.refl w3.heap.size w3).drew).mono ?_; rintro e w4 ⟨rfl, hb4⟩; have hb5 := (Below.refl w3.heap.size w3).drew.trans hb4; have j0 := cellB k0 hb5; have j1 := cellB k1 hb5; have j2 := cellB k2 hb5)
        | (go_at_call 66; refine (HTW.out _ hb5).mono ?_; rintro e w6 ⟨rfl, hb6⟩; have hb7 := hb5.trans (hb6.mono hb5.size); have i0 := cellB k0 hb7; have i1 := cellB k1 hb7; have i2 := cellB k2 hb7))
    have bz := b2.trans (hb7.mono b2.size)
    have HWT := Lib.hid (show wtx A = if A.p.neg then 45 :: wos (Lib.decDigits A.p.m) A.p.e else wos (Lib.decDigits A.p.m) A.p.e by unfold wtx; rw [if_pos HE.out])
    rcases hs : A.p.neg with _ | _
    · have hf : wtx A = wos (Lib.decDigits A.p.m) A.p.e := by rw [HWT.out, if_neg (by rw [hs]; exact Bool.false_ne_true)]
      go_wp2
      refine bodyPost_ret (v := .tuple #[.string (txt (wos (Lib.decDigits A.p.m) A.p.e)), .int .i64 (A.err : Nat)]) (by simp [results, Tryz.results33, go_sem, HE.out]) rfl ?_
      exact ⟨by rw [hf], bz⟩
    · have hf : wtx A = 45 :: wos (Lib.decDigits A.p.m) A.p.e := by rw [HWT.out, if_pos hs]
      have hwl := wos_len (Lib.decDigits A.p.m) A.p.e (by omega) (by omega) (by omega)
      have hsz := txt_size (wos (Lib.decDigits A.p.m) A.p.e)
      have hws : (txt (wos (Lib.decDigits A.p.m) A.p.e)).size ≤ 2000000 := by rw [hsz]; exact hwl
      clear hwl hsz
      go_wp2
      refine bodyPost_ret (v := .tuple #[.string (txt (wtx A)), .int .i64 (A.err : Nat)]) (by
        have e : (⟨#[45]⟩ : ByteArray) ++ txt (wos (Lib.decDigits A.p.m) A.p.e) = txt (wtx A) := by apply ba_ext; rw [hf]; simp [txt]
        simp [results, Tryz.results33, go_sem, HE.out, e]) rfl ?_
      exact ⟨rfl, bz⟩
  · have hB : ((A.err : Int) != 0) = true := by simp [h0]
    have hv : wtx A = [] := by unfold wtx; rw [if_neg h0]
    have HV := Lib.hid hv
    clear hv h0 ho1
    go_wp2
    refine bodyPost_ret (v := .tuple #[.string ⟨#[]⟩, .int .i64 (A.err : Nat)]) (by simp [results, Tryz.results33, go_sem]) rfl ?_
    exact ⟨by rw [HV.out]; rfl, bb.alloc (by simpa using bb.size) _⟩
end Go.Proofs.YtimfpgpomafflaaGreatDoor
