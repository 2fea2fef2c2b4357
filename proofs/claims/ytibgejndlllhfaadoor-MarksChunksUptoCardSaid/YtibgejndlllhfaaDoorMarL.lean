/- The statements' common head: the document's examples. -/
import Derived.Test.YtibgejndlllhfaaDoorMarH
import Derived.Lib.SlBytesConst
namespace Go.Proofs.YtibgejndlllhfaaDoor
open Go.RowKit BM

def exT : List Nat := [91, 49, 44, 32, 34, 97, 58, 34, 93]
set_option maxRecDepth 100000 in
theorem exM : mkL exT exT.length = [(0, 91), (1, 48), (2, 44), (4, 34), (8, 93)] := by decide +kernel
set_option maxRecDepth 100000 in
theorem exB : brs (wds exT 1) = [true, false] := by decide +kernel
set_option maxRecDepth 100000 in
theorem exP : pkn [true, false] 1 = [1] := by decide +kernel
set_option maxRecDepth 100000 in
theorem exN3 : nxV (wds exT 1) 9 3 = 4 := by decide +kernel
set_option maxRecDepth 100000 in
theorem exN5 : nxV (wds exT 1) 9 5 = 7 := by decide +kernel
theorem exRd (w : World) (t : TypeId) (f : Nat × Nat) : Rd (w.alloc (.cells #[.int .u8 91, .int .u8 49, .int .u8 44, .int .u8 32, .int .u8 34, .int .u8 97, .int .u8 58, .int .u8 34, .int .u8 93] t f)) .u8 (some ⟨w.heap.size, 0, none⟩) exT := by
  refine Rd.mk fun j hj => ?_
  have hj' : j < 9 := hj
  have : j = 0 ∨ j = 1 ∨ j = 2 ∨ j = 3 ∨ j = 4 ∨ j = 5 ∨ j = 6 ∨ j = 7 ∨ j = 8 := by omega
  rcases this with rfl | rfl | rfl | rfl | rfl | rfl | rfl | rfl | rfl <;> (rw [World.cell?_alloc_mark]; rfl)
def exL5 : List (Nat × Nat) := [(0, 91), (1, 48), (2, 44), (4, 34), (8, 93)]
theorem y1 (b cap : Nat) (w : World) (hT : Tb w) (hcap : 9 ≤ cap) (hr : Rd w .u8 (some ⟨b, 0, none⟩) exT) : Calls Tryd.prog 16 #[.slice (some ⟨b, 0, none⟩) 9 cap] w fun e w' => ∃ g c, e = .returned (.slice (some ⟨g, 0, none⟩) 5 c) ∧ OwnV w' w.heap.size 37 2 (some ⟨g, 0, none⟩) 5 c (mkc exL5) ∧ Below w.heap.size w w' := by
  have h := Marks_any (some ⟨b, 0, none⟩) cap exT w hT (by show 9 ≤ 1000000000000; omega) hcap hr
  rw [exM] at h
  refine h.mono ?_
  rintro e w' ⟨a, c, rfl, ho, hb⟩
  rcases ho.shape with ⟨_, _, h0, _⟩ | ⟨g, cur, rfl, _⟩
  · simp at h0
  · exact ⟨g, c, rfl, ho, hb⟩
theorem y2 (b cap : Nat) (w : World) (hcap : 9 ≤ cap) (hr : Rd w .u8 (some ⟨b, 0, none⟩) exT) : Calls Tryd.prog 12 #[.slice (some ⟨b, 0, none⟩) 9 cap] w fun e w' => ∃ a c, e = .returned (.agg #[.slice a 1 c, .int .i64 9]) ∧ RdM w' a (wds exT 1) ∧ Below w.heap.size w w' := by
  refine (Build_any (some ⟨b, 0, none⟩) cap exT w (by show 9 ≤ 140737488355328; omega) hcap hr).mono ?_
  rintro e w' ⟨a, c, rfl, ho, hb⟩
  exact ⟨a, c, rfl, ho.rdM, hb⟩
theorem y3 (a : Option Addr) (cap : Nat) (w : World) (hT : Tb w) (hr : RdM w a (wds exT 1)) : Calls Tryd.prog 20 #[.agg #[.slice a 1 cap, .int .i64 9]] w fun e w' => ∃ g c, e = .returned (.tuple #[.slice (some ⟨g, 0, none⟩) 1 c, .int .i64 2]) ∧ w'.cell? ⟨g, 0, none⟩ = some (.int .u64 1) ∧ Below w.heap.size w w' := by
  have h := Brackets_any a cap (wds exT 1) 9 w hT hr (by show 1 ≤ 2600000000000; omega)
  rw [exB] at h
  refine h.mono ?_
  rintro e w' ⟨a, c, rfl, ho, hb⟩
  rw [show nw [true, false].length = 1 from rfl, exP] at ho
  rcases ho.shape with ⟨_, _, h0, _⟩ | ⟨g, cur, rfl, _⟩
  · simp at h0
  · exact ⟨g, c, rfl, ho.cellAt (j := 0) rfl, hb⟩
theorem y4 (a : Option Addr) (cap : Nat) (w : World) (hT : Tb w) (hr : RdM w a (wds exT 1)) : Calls Tryd.prog 18 #[.agg #[.slice a 1 cap, .int .i64 9], .int .i64 3] w fun e w' => e = .returned (.int .i64 4) ∧ Below w.heap.size w w' := by
  have h := Next_any a cap (wds exT 1) 9 3 w hT hr (by show 1 ≤ 2600000000000; omega) (by omega) (by omega)
  rw [exN3] at h
  exact h
theorem y5 (a : Option Addr) (cap : Nat) (w : World) (hT : Tb w) (hr : RdM w a (wds exT 1)) : Calls Tryd.prog 18 #[.agg #[.slice a 1 cap, .int .i64 9], .int .i64 5] w fun e w' => e = .returned (.int .i64 7) ∧ Below w.heap.size w w' := by
  have h := Next_any a cap (wds exT 1) 9 5 w hT hr (by show 1 ≤ 2600000000000; omega) (by omega) (by omega)
  rw [exN5] at h
  exact h
set_option maxRecDepth 20000 in
set_option maxHeartbeats 1000000 in
theorem shown_any (w : World) (hT : Tb w) : Calls Tryd.prog 10 #[] w fun r w' => r = .returned (.bool true) ∧ Below w.heap.size w w' := by
  have HT := Lib.hid hT
  clear hT
  have kc := fun (w : World) (C : Array Value) (n c : Nat) => Lib.run_convert_bytes_const (P := Tryd.prog) w 22 5 C n c Tryd.underlying22 Tryd.underlying5
  go_enter Tryd.func10, Tryd.ntmps10
  go_upto_region 2 with (fail)
  have HR0 := Lib.hid (exRd w 5 (9, 10))
  have B0 := Lib.hid ((Below.refl w.heap.size w).alloc (Nat.le_refl _) (.cells #[.int .u8 91, .int .u8 49, .int .u8 44, .int .u8 32, .int .u8 34, .int .u8 97, .int .u8 58, .int .u8 34, .int .u8 93] 5 (9, 10)))
  generalize w.alloc (.cells #[.int .u8 91, .int .u8 49, .int .u8 44, .int .u8 32, .int .u8 34, .int .u8 97, .int .u8 58, .int .u8 34, .int .u8 93] 5 (9, 10)) = w0 at *
  clear kc
  go_wp2_with fail
  refine (y1 _ _ _ (HT.out.below B0.out) (by decide) HR0.out).mono ?_
  rintro r w1 ⟨g1, c1, rfl, ho1, hb1⟩
  have B1 := Lib.hid (B0.out.trans (hb1.mono B0.out.size))
  have HR1 := Lib.hid (HR0.out.below hb1)
  have HO1 := Lib.hid ho1
  clear ho1 hb1 HR0 B0
  go_wp2_with fail
  refine (y2 _ _ _ (by decide) HR1.out).mono ?_
  rintro r w2 ⟨a2, c2, rfl, hm2, hb2⟩
  have B2 := Lib.hid (B1.out.trans (hb2.mono B1.out.size))
  have HO2 := Lib.hid (HO1.out.below hb2)
  have HM2 := Lib.hid hm2
  clear hm2 hb2 HR1 B1 HO1
  go_wp2_with fail
  have bz := (Below.refl w2.heap.size w2).alloc (Nat.le_refl _) (.cells #[.slice a2 1 c2, .int .i64 9] 27)
  have IX := Ix.mk w2 a2 1 c2 9 27 (0, 0)
  have HM3 := Lib.hid (HM2.out.below bz)
  have HO3 := Lib.hid (HO2.out.below bz)
  have B3 := Lib.hid (B2.out.trans (bz.mono B2.out.size))
  generalize w2.alloc (.cells #[.slice a2 1 c2, .int .i64 9] 27) = w3 at *
  clear bz HM2 HO2 B2
  refine (y3 _ _ _ (HT.out.below B3.out) HM3.out).mono ?_
  rintro r w4 ⟨g4, c4, rfl, hk4, hb4⟩
  have B4 := Lib.hid (B3.out.trans (hb4.mono B3.out.size))
  have HO4 := Lib.hid (HO3.out.below hb4)
  have HM4 := Lib.hid (HM3.out.below hb4)
  have IX4 := Ix.below IX hb4
  have HK4 := Lib.hid hk4
  clear hb4 hk4 HO3 HM3 B3 IX
  obtain ⟨x0, x1⟩ := IX4.out
  have l2 := HO4.out.cellAt (j := 2) (v := .int .i64 1) rfl
  have l3 := HO4.out.cellAt (j := 3) (v := .int .u8 48) rfl
  have l6 := HO4.out.cellAt (j := 6) (v := .int .i64 4) rfl
  have l7 := HO4.out.cellAt (j := 7) (v := .int .u8 34) rfl
  go_wp2_with fail
  refine (y4 _ _ _ (HT.out.below B4.out) HM4.out).mono ?_
  rintro r w5 ⟨rfl, hb5⟩
  have B5 := Lib.hid (B4.out.trans (hb5.mono B4.out.size))
  have HM5 := Lib.hid (HM4.out.below hb5)
  have IX5 := Ix.below IX4 hb5
  have HK5 := Lib.hid (cellW hb5 HK4.out)
  clear hb5 x0 x1 l2 l3 l6 l7 IX4 HK4 HM4 HO4 B4
  obtain ⟨x0, x1⟩ := IX5.out
  go_wp2_with fail
  refine (y5 _ _ _ (HT.out.below B5.out) HM5.out).mono ?_
  rintro r w6 ⟨rfl, hb6⟩
  have B6 := Lib.hid (B5.out.trans (hb6.mono B5.out.size))
  have hk6 := cellW hb6 HK5.out
  clear hb6 x0 x1 IX5 HK5 HM5 B5
  go_wp2
  go_ret
  exact ⟨by first | rfl | simp, B6.out⟩
end Go.Proofs.YtibgejndlllhfaaDoor
