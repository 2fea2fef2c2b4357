/- parens: New walked. -/
import Derived.Test.YtelagemniheeoaaDoorParO
namespace Go.Proofs.YtelagemniheeoaaDoor
open Go.RowKit BM

/-- how many bits New takes -/
def newN (len : Nat) (n : Int) : Nat := min n.toNat (64 * len)
/-- a box of a vector, whose numbers are not laid -/
structure VBx (w : World) (q : Nat) (a : Option Addr) (l c : Nat) (n : Int) (x2 x3 : Value) : Prop where
  c0 : w.cell? ⟨q, 0, none⟩ = some (.slice a l c)
  c1 : w.cell? ⟨q, 1, none⟩ = some (.int .i64 n)
  c2 : w.cell? ⟨q, 2, none⟩ = some x2
  c3 : w.cell? ⟨q, 3, none⟩ = some x3
  fz : ∀ j, w.frozen? ⟨q, j, none⟩ = false
theorem VBx.below {w w' : World} {q : Nat} {a : Option Addr} {l c : Nat} {n : Int} {x2 x3 : Value} (h : VBx w q a l c n x2 x3) (hb : Below w.heap.size w w') : VBx w' q a l c n x2 x3 :=
  ⟨cellP hb h.c0, cellP hb h.c1, cellP hb h.c2, cellP hb h.c3, fun j => by rw [hb.frozen (show q < w.heap.size from lt_of_cell h.c0)]; exact h.fz j⟩
theorem VBx.new (w : World) (a : Option Addr) (l c : Nat) (n : Int) (x2 x3 : Value) (t : TypeId) : VBx (w.alloc (.cells #[.slice a l c, .int .i64 n, x2, x3] t)) w.heap.size a l c n x2 x3 :=
  ⟨by simp, by simp, by simp, by simp, fun j => by simp⟩
theorem VBx.set2 {w : World} {q : Nat} {a : Option Addr} {l c : Nat} {n : Int} {x2 x3 : Value} (h : VBx w q a l c n x2 x3) (u : Value) : VBx (w.setCell ⟨q, 2, none⟩ u) q a l c n u x3 :=
  ⟨by simp [World.cell?_setCell_other, h.c0], by simp [World.cell?_setCell_other, h.c1], by simp [World.cell?_setCell_same, h.c2], by simp [World.cell?_setCell_other, h.c3], fun j => by rw [World.frozen?_setCell]; exact h.fz j⟩
theorem VBx.set3 {w : World} {q : Nat} {a : Option Addr} {l c : Nat} {n : Int} {x2 x3 : Value} (h : VBx w q a l c n x2 x3) (u : Value) : VBx (w.setCell ⟨q, 3, none⟩ u) q a l c n x2 u :=
  ⟨by simp [World.cell?_setCell_other, h.c0], by simp [World.cell?_setCell_other, h.c1], by simp [World.cell?_setCell_other, h.c2], by simp [World.cell?_setCell_same, h.c3], fun j => by rw [World.frozen?_setCell]; exact h.fz j⟩
theorem LVO.oth' {w w' : World} {B q : Nat} {L : LV} (h : LVO w B L) (ho : Oth w w' (some ⟨q, 0, Option.none⟩)) (hq : q < B) : LVO w' B L := by
  have key : ∀ {a : Option Addr} {n c : Nat} {xs : List Value}, OwnV w B 3 1 a n c xs → OwnV w' B 3 1 a n c xs := fun {a n c xs} ho1 => ho1.oth ho (fun g e1 e2 => by
    rcases ho1.shape with ⟨h, _⟩ | ⟨g', _, h, hb, _⟩
    · rw [h] at e1; cases e1
    · rw [h] at e1; simp at e1 e2; omega)
  exact ⟨key h.1, key h.2⟩
def ResN (bits : List (BitVec 64)) (n : Int) (w : World) (r : Ending) (w' : World) : Prop := ∃ b v, r = .returned (.pointer (some ⟨b, 0, none⟩)) ∧ (VX w' b v ∧ v.ok ∧ v.lv.length ≤ 100) ∧ v.n = newN bits.length n ∧ (∀ i, i < v.n → v.f i = wb bits i) ∧ w.heap.size ≤ b ∧ Below w.heap.size w w' ∧ (∀ d, 1 ≤ d → d < v.lv.length → 1 < cn v.n d)
theorem wb_take {ws : List (BitVec 64)} {k i : Nat} (h : i / 64 < k) : wb (ws.take k) i = wb ws i := by
  unfold wb; rw [List.getElem?_take_of_lt h]
theorem RdV.take {w : World} {a : Option Addr} {ws : List (BitVec 64)} (h : RdV w a (wv8 ws)) (k : Nat) : RdV w a (wv8 (ws.take k)) := by
  intro j u hj
  unfold wv8 at hj
  rw [List.map_take, List.getElem?_take] at hj
  split at hj
  · exact h j u hj
  · cases hj
set_option maxHeartbeats 4000000 in
theorem New_any (a : Option Addr) (cap : Nat) (bits : List (BitVec 64)) (n : Int) (w : World) (hr : RdV w a (wv8 bits)) (h0 : a = none → bits = [] ∧ cap = 0) (hcap : bits.length ≤ cap) (hl : bits.length ≤ 17592186044416) (hn : -9223372036854775808 ≤ n ∧ n ≤ 9223372036854775807) :
    Calls Tryd.prog 11 #[.slice a bits.length cap, .int .i64 n] w (ResN bits n w) := by
  obtain ⟨N, hN⟩ : ∃ N, newN bits.length n = N := ⟨_, rfl⟩
  have hNd : N = min n.toNat (64 * bits.length) := hN.symm
  have hNb : N ≤ 1125899906842624 := by omega
  have hkl : (N + 63) / 64 ≤ bits.length := by omega
  have htl : (bits.take ((N + 63) / 64)).length = (N + 63) / 64 := by rw [List.length_take]; omega
  have HCL := Lib.hid (Clone_any a cap (bits.take ((N + 63) / 64)) w (hr.take _) (fun h => by obtain ⟨h1, h2⟩ := h0 h; rw [h1]; exact ⟨by simp, h2⟩) (by rw [htl]; omega))
  rw [htl] at HCL
  have HND := Lib.hid hNd; have HN := Lib.hid hN; have HTL := Lib.hid htl
  have hkc : (N + 63) / 64 ≤ cap := by omega
  obtain ⟨k, hk⟩ : ∃ k, (N + 63) / 64 = k := ⟨_, rfl⟩
  have HK := Lib.hid hk
  rw [hk] at HCL hkl hkc HTL
  have hwrp : ((N : Int) + 64 - 1) / 64 = k := by omega
  have hwrp2 : ((N : Int) + 63) / 64 = k := by omega
  clear hNd hN htl hr h0 hk
  go_enter Tryd.func11, Tryd.ntmps11
  go_upto_region 1 with (fail)
  go_cut [1] (fun s wx => s = .int .i64 N ∧ w = wx)
  case first =>
    clear hwrp hwrp2
    go_wp2
    all_goals go_meet
    all_goals exact ⟨by congr 1; have := HND.out; omega, rfl⟩
  case rest =>
    obtain ⟨rfl, rfl⟩ := hcut
    go_wp2_with fail
    clear hwrp hwrp2
    refine HCL.out.mono ?_
    rintro r w1 ⟨wa, wc, rfl, how, hb1⟩
    have hwk : (wv8 (bits.take k)).length = k := by simp only [wv8, List.length_map]; exact HTL.out
    rw [hwk] at how ⊢
    have x2 := VBx.new w1 wa k wc N (.slice none 0 0) (.slice none 0 0) 43
    have bA := (Below.refl w1.heap.size w1).alloc (Nat.le_refl _) (.cells #[.slice wa k wc, .int .i64 N, .slice none 0 0, .slice none 0 0] 43)
    have o2 := how.below bA
    have hz1 := hb1.size
    have b2 := hb1.trans (bA.mono hz1)
    have hs2 : (w1.alloc (.cells #[.slice wa k wc, .int .i64 N, .slice none 0 0, .slice none 0 0] 43)).heap.size = w1.heap.size + 1 := by simp
    have hgq : ∀ g, wa = some ⟨g, 0, none⟩ → g < w1.heap.size := fun g e => by subst e; exact how.lt
    clear how hb1 bA HCL
    have HGQ := Lib.hid hgq
    clear hgq
    go_upto_region 3 with (fail)
    generalize w1.alloc (.cells #[.slice wa k wc, .int .i64 N, .slice none 0 0, .slice none 0 0] 43) = w2 at *
    generalize w1.heap.size = q at *
    have hRK := ranksOf_any wa wc (bits.take k) (N / 64 + 1) w2 o2.rdV (by rw [HTL.out]; have := HK.out; omega) (by omega) (by omega)
    rw [HTL.out] at hRK
    have HRK := Lib.hid hRK
    have O2 := Lib.hid o2; have B2 := Lib.hid b2; have X2 := Lib.hid x2
    have HS2 := Lib.hid hs2
    clear hRK o2 b2 x2 hs2
    have c0 := X2.out.c0
    have hN64 : ((N : Int) / 64) + 1 = ((N / 64 + 1 : Nat) : Int) := by omega
    obtain ⟨C, hC⟩ : ∃ C, N / 64 + 1 = C := ⟨_, rfl⟩
    have HCC := Lib.hid hC
    rw [hC] at HRK hN64
    clear hC
    go_wp2_with fail
    clear c0 hN64
    refine HRK.out.mono ?_
    rintro r w3 ⟨ra, rc, rfl, hor, hb3⟩
    have hrl : (nv8 (rkl (wb (bits.take k)) C)).length = C := by simp [nv8, rkl]
    rw [hrl] at hor ⊢
    have o3 := O2.out.below hb3
    have x3 := X2.out.below hb3
    have b3 := B2.out.trans (hb3.mono B2.out.size)
    have hz2 : q < w2.heap.size := by have := HS2.out; omega
    have hgr : ∀ g, ra = some ⟨g, 0, none⟩ → q ≠ g := fun g e => by
      rcases hor.shape with ⟨h, _⟩ | ⟨g', _, h, hb, _⟩
      · rw [h] at e; cases e
      · rw [h] at e; simp at e; omega
    have c2 := x3.c2
    have f2 := x3.fz 2
    have HOR := Lib.hid hor; have HGR := Lib.hid hgr
    have O3 := Lib.hid o3; have X3 := Lib.hid x3; have B3 := Lib.hid b3
    clear hor hgr o3 x3 b3 hb3 HRK hrl hwk
    go_upto_region 4 with (fail)
    clear c2 f2
    have t0 := Oth.setCell w3 q 2 (.slice ra C rc)
    have o4 := O3.out.oth t0 (fun g e1 e2 => by have := HGQ.out g e1; simp at e2 <;> omega)
    have r4 := HOR.out.oth t0 (fun g e1 e2 => by have := HGR.out g e1; simp at e2 <;> omega)
    have x4 := X3.out.set2 (.slice ra C rc)
    have b4 : Below w.heap.size w (w3.setCell ⟨q, 2, none⟩ (.slice ra C rc)) := Below.setCell (p := ⟨q, 2, none⟩) B3.out hz1 (.slice ra C rc)
    have hz4 : q < (w3.setCell ⟨q, 2, none⟩ (.slice ra C rc)).heap.size := lt_of_cell x4.c0
    clear t0 O3 HOR X3 B3
    generalize w3.setCell ⟨q, 2, none⟩ (.slice ra C rc) = w4 at *
    have hkv : k = (N + 63) / 64 := HK.out.symm
    have hcl : (rkl (wb (bits.take k)) C).length = C := by simp [rkl]
    have hrok : ∀ lv la lc, VD.rok ⟨bits.take k, N, wa, wc, rkl (wb (bits.take k)) C, ra, rc, lv, la, lc⟩ := fun lv la lc => ⟨by show (bits.take k).length = (N + 63) / 64; rw [HTL.out]; exact hkv, hNb, by show rkl (wb (bits.take k)) C = _; rw [← HCC.out]; rfl⟩
    have hVP : VP w4 q ⟨bits.take k, N, wa, wc, rkl (wb (bits.take k)) C, ra, rc, [], none, 0⟩ := ⟨⟨by show _ = some (Value.slice wa (bits.take k).length wc); rw [HTL.out]; exact x4.c0, x4.c1, by show _ = some (Value.slice ra (rkl (wb (bits.take k)) C).length rc); rw [hcl]; exact x4.c2⟩, o4.rdV, r4.rdV⟩
    have HLV := Lib.hid (levelsOf_any q _ w4 hVP (hrok [] none 0))
    have O4 := Lib.hid o4; have R4 := Lib.hid r4; have X4 := Lib.hid x4; have B4 := Lib.hid b4; have HROK := Lib.hid hrok; have HCL := Lib.hid hcl
    clear hVP o4 r4 x4 b4 hrok hcl hkv
    go_wp2_with fail
    refine HLV.out.mono ?_
    rintro r w5 ⟨lv, la, lc, rfl, hlo, hlL, hlk, hl0, hl100, hcn, hmi, hb5⟩
    have o5 := O4.out.below hb5
    have r5 := R4.out.below hb5
    have x5 := X4.out.below hb5
    have b5 := B4.out.trans (hb5.mono B4.out.size)
    have c3 := x5.c3
    have f3 := x5.fz 3
    have OL := Lib.hid hlo; have LL := Lib.hid hlL; have LK := Lib.hid hlk; have L0 := Lib.hid hl0; have L1 := Lib.hid hl100; have LC := Lib.hid hcn; have LMI := Lib.hid hmi
    have O5 := Lib.hid o5; have R5 := Lib.hid r5; have X5 := Lib.hid x5; have B5 := Lib.hid b5
    clear hlo hlL hlk hl0 hl100 hcn hmi hb5 o5 r5 x5 b5 HLV
    go_wp2
    go_ret
    have t1 := Oth.setCell w5 q 3 (.slice la lv.length lc)
    have x6 := X5.out.set3 (.slice la lv.length lc)
    have o6 := O5.out.oth t1 (fun g e1 e2 => by have := HGQ.out g e1; simp at e2 <;> omega)
    have r6 := R5.out.oth t1 (fun g e1 e2 => by have := HGR.out g e1; simp at e2 <;> omega)
    have l6 := OL.out.oth t1 (fun g e1 e2 => by
      rcases OL.out.shape with ⟨h, _⟩ | ⟨g', _, h, hb, _⟩
      · rw [h] at e1; cases e1
      · rw [h] at e1; simp at e1 e2; omega)
    refine ⟨q, ⟨bits.take k, N, wa, wc, rkl (wb (bits.take k)) C, ra, rc, lv, la, lc⟩, rfl, ⟨⟨⟨?_, x6.c1, ?_, x6.c3⟩, o6.rdV, r6.rdV, l6.rdV, fun L hL => (LVO.oth' (LL.out L hL) t1 hz4).lvr⟩, ⟨HROK.out _ _ _, LK.out, L0.out, LC.out⟩, L1.out⟩, HN.out.symm, fun i hi => wb_take (by have := HK.out; have : i < N := hi; omega), hz1, Below.setCell (p := ⟨q, 3, none⟩) B5.out hz1 _, LMI.out⟩
    · show _ = some (Value.slice wa (bits.take k).length wc); rw [HTL.out]; exact x6.c0
    · show _ = some (Value.slice ra (rkl (wb (bits.take k)) C).length rc); rw [HCL.out]; exact x6.c2
end Go.Proofs.YtelagemniheeoaaDoor
