/- Walks: the law LimbParses. -/
import Derived.Test.YteipkibaoikilaaDoorLimbW
import Derived.Test.YteipkibaoikilaaDoorLimbZp
namespace Go.Proofs.YteipkibaoikilaaDoor
open Go.RowKit LM

theorem dv_len {s : ByteArray} (h : okD s = true) : (dg 10 (dv s.data.toList)).length ≤ s.size := by
  have hD : ∀ c ∈ s.data.toList, isD c = true := by
    unfold okD at h
    simp only [Bool.and_eq_true] at h
    exact List.all_eq_true.1 h.1
  have h1 := dv_lt hD
  have h2 : s.data.toList.length = s.size := by rw [Array.length_toList]; rfl
  rw [h2] at h1
  exact dg_len_of_lt (by omega) h1
theorem dg_len_9 (v : Nat) : (dg 1000000000 v).length ≤ (dg 10 v).length := by
  refine dg_len_of_lt (by omega) ?_
  exact Nat.lt_of_lt_of_le (dg_upper (b := 10) (by omega) v) (Nat.pow_le_pow_left (by omega) _)

set_option maxHeartbeats 8000000 in
set_option maxRecDepth 100000 in
theorem parses_ok (s : ByteArray) (w : World) (htab : Tab w) (hs : s.size ≤ 140737488351232) (hok : okD s = true) :
    Calls Tryd.prog 9 #[.string s] w fun e w' => e = .returned (.bool true) ∧ Below w.heap.size w w' := by
  have hl := dv_len hok
  have hl9 := dg_len_9 (dv s.data.toList)
  have HT := Lib.hid htab; have HOK := Lib.hid hok
  have hP := fun W => Parse_ok s W hs hok
  have hR := fun W => RParse_any s W hs
  have HP := Lib.hid hP; have HR := Lib.hid hR
  clear htab hok hP hR
  go_enter Tryd.func9, Tryd.ntmps9
  go_wp2_with fail
  refine (shown_any w HT.out).mono ?_
  rintro e w1 ⟨rfl, bb⟩
  go_wp2_with fail
  refine (HP.out w1).mono ?_
  rintro e w2 ⟨a2, c2, rfl, ho2, hb2⟩
  have r2 := ho2.rd
  replace bb := bb.trans (hb2.mono bb.size)
  clear hb2 ho2
  go_wp2_with fail
  refine (HR.out w2).mono ?_
  rintro e w3 ⟨a3, c3, v, hv, ho3, hb3⟩
  have hv2 : v = dv s.data.toList ∧ e = .returned (.tuple #[.slice a3 (dg 10 v).length c3, .int .i64 0]) := by
    rcases hv with ⟨_, h1, h2⟩ | ⟨h1, _, _⟩
    · exact ⟨h1, h2⟩
    · rw [HOK.out] at h1; cases h1
  obtain ⟨rfl, rfl⟩ := hv2
  have r3 := ho3.rd
  replace r2 := r2.below hb3
  replace bb := bb.trans (hb3.mono bb.size)
  clear hb3 ho3 hv
  generalize dv s.data.toList = v at *
  go_wp2_with fail
  refine (to_any a3 c3 v w3 (by omega) r3).mono ?_
  rintro e w4 ⟨a4, c4, rfl, ho4, hb4⟩
  have r4 := ho4.rd
  replace r2 := r2.below hb4
  replace bb := bb.trans (hb4.mono bb.size)
  clear hb4 ho4 r3
  have hS := same_any a2 a4 c2 c4 _ _ w4 (by omega) (by omega) r2 r4
  rw [decide_eq_true rfl] at hS
  have HS := Lib.hid hS
  clear hS
  go_wp2_with fail
  refine HS.out.mono ?_
  rintro e w5 ⟨rfl, hb5⟩
  replace bb := bb.trans (hb5.mono bb.size)
  go_wp2
  go_ret
  exact ⟨rfl, bb⟩
set_option maxHeartbeats 8000000 in
set_option maxRecDepth 100000 in
theorem parses_bad (s : ByteArray) (w : World) (htab : Tab w) (hs : s.size ≤ 140737488351232) (hok : okD s = false) :
    Calls Tryd.prog 9 #[.string s] w fun e w' => e = .returned (.bool true) ∧ Below w.heap.size w w' := by
  have HT := Lib.hid htab; have HOK := Lib.hid hok
  have hP := fun W => Parse_bad s W (by unfold maxLen; omega) hok
  have hR := fun W => RParse_any s W hs
  have HP := Lib.hid hP; have HR := Lib.hid hR
  clear htab hok hP hR
  go_enter Tryd.func9, Tryd.ntmps9
  go_wp2_with fail
  refine (shown_any w HT.out).mono ?_
  rintro e w1 ⟨rfl, bb⟩
  go_wp2_with fail
  refine (HP.out w1).mono ?_
  rintro e w2 ⟨rfl, rfl⟩
  go_wp2_with fail
  refine (HR.out w1).mono ?_
  rintro e w3 ⟨a3, c3, v, hv, ho3, hb3⟩
  have hv2 : v = 0 ∧ e = .returned (.tuple #[.slice a3 (dg 10 v).length c3, .int .i64 2]) := by
    rcases hv with ⟨h1, _, _⟩ | ⟨_, h1, h2⟩
    · rw [HOK.out] at h1; cases h1
    · exact ⟨h1, h2⟩
  obtain ⟨rfl, rfl⟩ := hv2
  have r3 := ho3.rd
  replace bb := bb.trans (hb3.mono bb.size)
  clear hb3 ho3 hv
  have hz : (dg 10 0).length = 0 := by rw [dg_zero]; rfl
  have hto := to_any a3 c3 0 w3 (by rw [hz]; omega) r3
  rw [hz] at hto
  have HTO := Lib.hid hto
  rw [hz]
  clear hto hz r3
  go_wp2_with fail
  refine HTO.out.mono ?_
  rintro e w4 ⟨a4, c4, rfl, ho4, hb4⟩
  have r4 := ho4.rd
  replace bb := bb.trans (hb4.mono bb.size)
  clear hb4 ho4
  have hz2 : (dg 1000000000 0) = [] := dg_zero _
  rw [hz2] at r4 ⊢
  have hS := same_any none a4 0 c4 [] [] w4 (by simp) (by simp) (Rd.nil _ _ _) r4
  rw [decide_eq_true rfl] at hS
  have HS := Lib.hid hS
  clear hS hz2
  go_wp2_with fail
  refine HS.out.mono ?_
  rintro e w5 ⟨rfl, hb5⟩
  replace bb := bb.trans (hb5.mono bb.size)
  go_wp2
  go_ret
  exact ⟨rfl, bb⟩
theorem parses_walk {s : ByteArray} (w : World) (htab : Tab w) (hs : s.data.toList.length ≤ reachBytes) :
    Calls Tryd.prog 9 #[.string s] w fun e w' => e = .returned (.bool true) ∧ Below w.heap.size w w' := by
  have h1 : s.size ≤ 140737488351232 := by
    have h2 : s.data.toList.length = s.size := by rw [Array.length_toList]; rfl
    rw [h2] at hs
    exact Nat.le_trans hs (by decide)
  rcases h : okD s with _ | _
  · exact parses_bad s w htab h1 h
  · exact parses_ok s w htab h1 h
end Go.Proofs.YteipkibaoikilaaDoor
