/- Walk of dec.Text. -/
import Derived.Test.YtofeckdhhaoobaaDoorDecC
import Derived.Test.YtofeckdhhaoobaaDoorDecT
import Derived.Test.YtofeckdhhaoobaaDoorLimbGs
import Derived.Test.YtofeckdhhaoobaaDoorDecGs
namespace Go.Proofs.YtofeckdhhaoobaaDoor
open Go.RowKit LM

def wtx (A : Ans) : List UInt8 := if A.err = 0 then (if A.p.neg then 45 :: wos (Lib.decDigits A.p.m) A.p.e else wos (Lib.decDigits A.p.m) A.p.e) else []

theorem dec_len2 (v : Nat) : (Lib.decDigits v).length = max 1 (dg 10 v).length := by
  rw [dec_text]
  by_cases h : v = 0
  · rw [if_pos h, h, dg_zero]; rfl
  · rw [if_neg h, List.length_map, List.length_reverse]
    have : (dg 10 v).length ≠ 0 := by rw [dg_pos (by omega) (by omega)]; simp
    omega

theorem wos_len (l : List UInt8) (e : Int) (h : l.length ≤ 90000) (h1 : -900000 ≤ e) (h2 : e ≤ 900000) : (wos l e).length ≤ 2000000 := by
  unfold wos
  split
  · simp; omega
  · split
    · unfold wpt; simp; omega
    · have := Lib.itoa_length_le (e + l.length - 1) (by omega) (by omega)
      unfold wpow; simp; split <;> simp <;> omega

set_option maxHeartbeats 4000000 in
theorem DText_any (s : Bool) (a : Option Addr) (c : Nat) (l : List Nat) (e : Int) (w : World) (hl : l.length ≤ 9223372036854775807) (hlo : Lo 4294967296 l) (hrd : Rd w .u32 a l) (htab : Tab w) :
    Calls Tryd.prog 22 #[.agg #[.bool s, .slice a l.length c, .int .i64 e]] w fun r w' => r = .returned (.tuple #[.string (txt (wtx (normA l.length s (vl 1000000000 l) e))), .int .i64 ((normA l.length s (vl 1000000000 l) e).err : Nat)]) ∧ Below w.heap.size w w' := by
  have hT := fun W hb => DNorm_any s a c l e W hl hlo (hrd.below' (w' := W) hb (Nat.le_refl _)) (htab.below hb)
  obtain ⟨hd, he1, he2⟩ := inR_bounds (normA_in l.length s (vl 1000000000 l) e)
  have hq : (dg 1000000000 (normA l.length s (vl 1000000000 l) e).p.m).length ≤ 1073741824 := by
    have := dg_len_9 (normA l.length s (vl 1000000000 l) e).p.m
    unfold dl at hd; omega
  have hdl : (Lib.decDigits (normA l.length s (vl 1000000000 l) e).p.m).length ≤ 401 := by rw [dec_len2]; unfold dl at hd; omega
  have hpos : 1 ≤ (Lib.decDigits (normA l.length s (vl 1000000000 l) e).p.m).length := by rw [dec_len2]; omega
  generalize normA l.length s (vl 1000000000 l) e = A at *
  have HT := Lib.hid hT; have HTAB := Lib.hid htab
  clear hT hlo hrd htab
  have hv := vl_dg (b := 1000000000) (by omega) A.p.m
  have hL := fun a1 c1 W hr ht => Text_any a1 c1 (dg 1000000000 A.p.m) W hq (Lo_mono (Lo_dg (by omega) _) (by omega)) hr ht
  rw [hv] at hL
  have HL := Lib.hid hL
  have hW := fun W ht => withoutSign_any (Lib.decDigits A.p.m) A.p.e W hpos (by omega) (by omega) (by omega) ht
  have HW := Lib.hid hW
  clear hL hW hv
  go_enter Tryd.func22, Tryd.ntmps22
  go_wp2_with fail
  refine (HT.out _ ((Below.refl _ _).alloc (Nat.le_refl _) _)).mono ?_
  rintro r w2 ⟨a1, c1, rfl, ho1, hb1⟩
  have bb := ((Below.refl w.heap.size w).alloc (Nat.le_refl _) (.cells #[.bool s, .slice a l.length c, .int .i64 e] 24)).trans (hb1.mono (by simp))
  by_cases h0 : A.err = 0
  · have hB : ((A.err : Int) != 0) = false := by simp [h0]
    have HE := Lib.hid h0
    clear h0
    go_wp2_with fail
    have b2 := bb.alloc bb.size (.cells #[.bool A.p.neg, .slice a1 (dg 1000000000 A.p.m).length c1, .int .i64 A.p.e] 24)
    have k0 : (w2.alloc (.cells #[.bool A.p.neg, .slice a1 (dg 1000000000 A.p.m).length c1, .int .i64 A.p.e] 24)).cell? ⟨w2.heap.size, 0, none⟩ = some (.bool A.p.neg) := by simp
    have k1 : (w2.alloc (.cells #[.bool A.p.neg, .slice a1 (dg 1000000000 A.p.m).length c1, .int .i64 A.p.e] 24)).cell? ⟨w2.heap.size, 1, none⟩ = some (.slice a1 (dg 1000000000 A.p.m).length c1) := by simp
    have k2 : (w2.alloc (.cells #[.bool A.p.neg, .slice a1 (dg 1000000000 A.p.m).length c1, .int .i64 A.p.e] 24)).cell? ⟨w2.heap.size, 2, none⟩ = some (.int .i64 A.p.e) := by simp
    have hR1 := (ho1.rd).below' (w' := w2.alloc (.cells #[.bool A.p.neg, .slice a1 (dg 1000000000 A.p.m).length c1, .int .i64 A.p.e] 24)) ((Below.refl w2.heap.size w2).alloc (Nat.le_refl _) _) (Nat.le_refl _)
    have HR1 := Lib.hid hR1
    clear ho1 hb1 bb hR1
    generalize w2.alloc (.cells #[.bool A.p.neg, .slice a1 (dg 1000000000 A.p.m).length c1, .int .i64 A.p.e] 24) = w3 at *
    have HTL := Lib.hid (fun W hb => HL.out a1 c1 W (HR1.out.below (w' := W) hb) (HTAB.out.below (w' := W) (b2.trans (hb.mono b2.size))))
    have HTW := Lib.hid (fun W (hb : Below w3.heap.size w3 W) => HW.out W (HTAB.out.below (w' := W) (b2.trans (hb.mono b2.size))))
    go_region_held3 (fun w' => w'.cell? ⟨w2.heap.size, 0, none⟩ = some (.bool A.p.neg) ∧ w'.cell? ⟨w2.heap.size, 1, none⟩ = some (.slice a1 (dg 1000000000 A.p.m).length c1) ∧ w'.cell? ⟨w2.heap.size, 2, none⟩ = some (.int .i64 A.p.e)) (first | go_keep | exact ⟨j0, j1, j2⟩ | exact ⟨i0, i1, i2⟩)
      (first
        | (go_at_call 49; refine (HTL.out _ (Below.refl w3.heap.size w3).drew).mono ?_; rintro e w4 ⟨rfl, hb4⟩; have hb5 := (Below.refl w3.heap.size w3).drew.trans hb4; have j0 := cellB k0 hb5; have j1 := cellB k1 hb5; have j2 := cellB k2 hb5)
        | (go_at_call 48; refine (HTW.out _ hb5).mono ?_; rintro e w6 ⟨rfl, hb6⟩; have hb7 := hb5.trans (hb6.mono hb5.size); have i0 := cellB k0 hb7; have i1 := cellB k1 hb7; have i2 := cellB k2 hb7))
    have bz := b2.trans (hb7.mono b2.size)
    have HWT := Lib.hid (show wtx A = if A.p.neg then 45 :: wos (Lib.decDigits A.p.m) A.p.e else wos (Lib.decDigits A.p.m) A.p.e by unfold wtx; rw [if_pos HE.out])
    rcases hs : A.p.neg with _ | _
    · have hf : wtx A = wos (Lib.decDigits A.p.m) A.p.e := by rw [HWT.out, if_neg (by rw [hs]; exact Bool.false_ne_true)]
      go_wp2
      refine bodyPost_ret (v := .tuple #[.string (txt (wos (Lib.decDigits A.p.m) A.p.e)), .int .i64 (A.err : Nat)]) (by simp [results, Tryd.results22, go_sem, HE.out]) rfl ?_
      exact ⟨by rw [hf], bz⟩
    · have hf : wtx A = 45 :: wos (Lib.decDigits A.p.m) A.p.e := by rw [HWT.out, if_pos hs]
      have hwl := wos_len (Lib.decDigits A.p.m) A.p.e (by omega) (by omega) (by omega)
      have hsz := txt_size (wos (Lib.decDigits A.p.m) A.p.e)
      have hws : (txt (wos (Lib.decDigits A.p.m) A.p.e)).size ≤ 2000000 := by rw [hsz]; exact hwl
      clear hwl hsz
      go_wp2
      refine bodyPost_ret (v := .tuple #[.string (txt (wtx A)), .int .i64 (A.err : Nat)]) (by
        have e : (⟨#[45]⟩ : ByteArray) ++ txt (wos (Lib.decDigits A.p.m) A.p.e) = txt (wtx A) := by apply ba_ext; rw [hf]; simp [txt]
        simp [results, Tryd.results22, go_sem, HE.out, e]) rfl ?_
      exact ⟨rfl, bz⟩
  · have hB : ((A.err : Int) != 0) = true := by simp [h0]
    have hv : wtx A = [] := by unfold wtx; rw [if_neg h0]
    have HV := Lib.hid hv
    clear hv h0 ho1
    go_wp2
    refine bodyPost_ret (v := .tuple #[.string ⟨#[]⟩, .int .i64 (A.err : Nat)]) (by simp [results, Tryd.results22, go_sem]) rfl ?_
    exact ⟨by rw [HV.out]; rfl, bb.alloc (by simpa using bb.size) _⟩
end Go.Proofs.YtofeckdhhaoobaaDoor
