/- parens: levelsOf walked. -/
import Derived.Test.YtelagemniheeoaaDoorParM
namespace Go.Proofs.YtelagemniheeoaaDoor
open Go.RowKit BM

theorem infoLev : (Tryd.prog.info? 55).map (fun i => (i.zero, i.size, i.bytes)) = some (some (.agg #[.slice none 0 0, .slice none 0 0]), 2, 48) := by kernel_rfl
/-- a level's rows are the call's own -/
def LVO (w : World) (B : Nat) (L : LV) : Prop := OwnV w B 3 1 L.la L.ls.length L.lc (iv8 L.ls) ∧ OwnV w B 3 1 L.ma L.ms.length L.mc (nv8 L.ms)
theorem LVO.below {w w' : World} {B : Nat} {L : LV} (h : LVO w B L) (hb : Below w.heap.size w w') : LVO w' B L := ⟨h.1.below hb, h.2.below hb⟩
theorem LVO.lvr {w : World} {B : Nat} {L : LV} (h : LVO w B L) : LVR w L := ⟨h.1.rdV, h.2.rdV⟩
/-- a block of levels -/
def LevB (w : World) (q : Nat) : Prop := ∃ arr f, w.heap[q]? = some (.cells arr 55 f)
theorem LVO.oth {w w' : World} {B q : Nat} {L : LV} (h : LVO w B L) (ho : Oth w w' (some ⟨q, 0, none⟩)) (hq : LevB w q) : LVO w' B L := by
  obtain ⟨arr, f, hb⟩ := hq
  have a1 := h.1.apart hb (by decide)
  have a2 := h.2.apart hb (by decide)
  exact ⟨h.1.oth ho (fun g e1 e2 => a1 (by rw [e1]; simpa using e2.symm)), h.2.oth ho (fun g e1 e2 => a2 (by rw [e1]; simpa using e2.symm))⟩
theorem LVO.mono {w : World} {B B' : Nat} {L : LV} (h : LVO w B L) (hB : B' ≤ B) : LVO w B' L := ⟨h.1.mono hB, h.2.mono hB⟩
theorem LVO.none {w w' : World} {B : Nat} {L : LV} (h : LVO w B L) (ho : Oth w w' Option.none) : LVO w' B L :=
  ⟨h.1.oth ho (fun g _ e2 => by cases e2), h.2.oth ho (fun g _ e2 => by cases e2)⟩
theorem LevB.set {w : World} {q j : Nat} {u : Value} (h : LevB w q) : LevB (w.setCell ⟨q, j, Option.none⟩ u) q := by
  obtain ⟨arr, f, hb⟩ := h
  unfold LevB World.setCell
  simp only [hb]
  refine ⟨arr.setIfInBounds j u, f, ?_⟩
  have hl := (Array.getElem?_eq_some_iff.1 hb).1
  have he := (Array.getElem?_eq_some_iff.1 hb).2
  simp [hl, Array.getElem_modify_self, he]
def sln : Value → Nat
  | .slice _ n _ => n
  | _ => 0
/-- the levels so far -/
structure Lvs (v : VD) (B : Nat) (w : World) (lv : List LV) : Prop where
  own : ∀ L ∈ lv, LVO w B L
  ok : ∀ d (L : LV), lv[d]? = some L → L.ok v.f v.n (d + 1)
theorem Lvs.below {v : VD} {B : Nat} {w w' : World} {lv : List LV} (h : Lvs v B w lv) (hb : Below w.heap.size w w') : Lvs v B w' lv := ⟨fun L hL => (h.own L hL).below hb, h.ok⟩
theorem Lvs.oth {v : VD} {B q : Nat} {w w' : World} {lv : List LV} (h : Lvs v B w lv) (ho : Oth w w' (some ⟨q, 0, none⟩)) (hq : LevB w q) : Lvs v B w' lv := ⟨fun L hL => (h.own L hL).oth ho hq, h.ok⟩
theorem Lvs.none {v : VD} {B : Nat} {w w' : World} {lv : List LV} (h : Lvs v B w lv) (ho : Oth w w' Option.none) : Lvs v B w' lv := ⟨fun L hL => (h.own L hL).none ho, h.ok⟩
theorem Lvs.push {v : VD} {B : Nat} {w : World} {lv : List LV} {L : LV} (h : Lvs v B w lv) (hL : LVO w B L) (hk : L.ok v.f v.n (lv.length + 1)) : Lvs v B w (lv ++ [L]) := by
  refine ⟨fun M hM => ?_, fun d M hd => ?_⟩
  · rcases List.mem_append.1 hM with h1 | h1
    · exact h.own M h1
    · rw [List.mem_singleton.1 h1]; exact hL
  · by_cases hl : d < lv.length
    · rw [List.getElem?_append_left hl] at hd; exact h.ok d M hd
    · rw [List.getElem?_append_right (by omega)] at hd
      have h0 : d - lv.length = 0 := by
        have := (List.getElem?_eq_some_iff.1 hd).1
        simp at this; omega
      rw [h0] at hd
      simp at hd; subst hd
      rw [show d = lv.length by omega]; exact hk
/-- a box of one level -/
structure LBx (w : World) (q : Nat) (L : LV) : Prop where
  c0 : w.cell? ⟨q, 0, none⟩ = some (.slice L.la L.ls.length L.lc)
  c1 : w.cell? ⟨q, 1, none⟩ = some (.slice L.ma L.ms.length L.mc)
  fz : ∀ j, w.frozen? ⟨q, j, none⟩ = false
  ty : LevB w q
theorem LBx.below {w w' : World} {q : Nat} {L : LV} (h : LBx w q L) (hb : Below w.heap.size w w') : LBx w' q L := by
  have hl : q < w.heap.size := lt_of_cell h.c0
  refine ⟨cellP hb h.c0, cellP hb h.c1, fun j => by rw [hb.frozen hl]; exact h.fz j, ?_⟩
  obtain ⟨arr, f, he⟩ := h.ty
  exact ⟨arr, f, by rw [hb.block q hl]; exact he⟩
theorem LBx.new (w : World) (L : LV) : LBx (w.alloc (.cells #[.slice L.la L.ls.length L.lc, .slice L.ma L.ms.length L.mc] 55)) w.heap.size L :=
  ⟨by simp, by simp, fun j => by simp, ⟨_, _, heap_alloc_new w _⟩⟩
theorem LBx.put {w : World} {q : Nat} {L : LV} (h : LBx w q L) (M : LV) : LBx ((w.setCell ⟨q, 0, none⟩ (.slice M.la M.ls.length M.lc)).setCell ⟨q, 1, none⟩ (.slice M.ma M.ms.length M.mc)) q M :=
  ⟨by simp [World.cell?_setCell_other, World.cell?_setCell_same, h.c0], by simp [World.cell?_setCell_other, World.cell?_setCell_same, h.c1], fun j => by rw [World.frozen?_setCell, World.frozen?_setCell]; exact h.fz j, h.ty.set.set⟩
theorem LBx.oth {w w' : World} {q : Nat} {a : Option Addr} {L : LV} (h : LBx w q L) (ho : Oth w w' a) (ha : a ≠ some ⟨q, 0, none⟩) : LBx w' q L := by
  have hl : q < w.heap.size := lt_of_cell h.c0
  have e := ho.2 q hl ha
  refine ⟨by rw [cellOfBlock e]; exact h.c0, by rw [cellOfBlock e]; exact h.c1, fun j => ?_, ?_⟩
  · have := h.fz j
    simp only [World.frozen?, e] at this ⊢
    exact this
  · obtain ⟨arr, f, he⟩ := h.ty
    exact ⟨arr, f, by rw [e]; exact he⟩
theorem sh_lin {d : Nat} (hd : 1 ≤ d) : sh d = 3 * d + 3 := by
  obtain ⟨e, rfl⟩ : ∃ e, d = e + 1 := ⟨d - 1, by omega⟩
  clear hd
  induction e with
  | zero => rfl
  | succ e ih => rw [sh_succ, ih]; omega
theorem few_levels {n d : Nat} (hd : 1 ≤ d) (hn : n ≤ 1125899906842624) (h : 1 < cn n d) : d ≤ 15 := by
  have h1 : 2 ^ sh d ≤ n := by
    unfold cn at h
    have : 0 < n / 2 ^ sh d := by omega
    exact Nat.le_of_not_lt fun h2 => by rw [Nat.div_eq_of_lt h2] at this; omega
  rw [sh_lin hd] at h1
  rcases Nat.lt_or_ge 15 d with h2 | h2
  · have : 2 ^ 51 ≤ 2 ^ (3 * d + 3) := Nat.pow_le_pow_right (by omega) (by omega)
    omega
  · exact h2
theorem lev_less {n d : Nat} (hd : 1 ≤ d) (h : 1 < cn n d) : n / 2 ^ sh (d + 1) < n / 2 ^ sh d := by
  have := cn_up (n := n) hd
  unfold cn at this h
  generalize n / 2 ^ sh (d + 1) = a at *
  generalize n / 2 ^ sh d = b at *
  omega
def ResLvs (v : VD) (w : World) (r : Ending) (w' : World) : Prop := ∃ lv a c, r = .returned (.slice a lv.length c) ∧ OwnV w' w.heap.size 55 2 a lv.length c (lvv lv) ∧ (∀ L ∈ lv, LVO w' w.heap.size L) ∧ (∀ d (L : LV), lv[d]? = some L → L.ok v.f v.n (d + 1)) ∧ 0 < lv.length ∧ lv.length ≤ 100 ∧ cn v.n lv.length = 1 ∧ (∀ d, 1 ≤ d → d < lv.length → 1 < cn v.n d) ∧ Below w.heap.size w w'
def mkL (g1 g2 C : Nat) (ls : List Int) (ms : List Nat) : LV := ⟨some ⟨g1, 0, none⟩, C, ls, some ⟨g2, 0, none⟩, C, ms⟩
/-- what a walk of a level answers, as a level -/
theorem lev_of {v : VD} {d : Nat} {w : World} {r : Ending} {w' : World} (h : ResLev v d w r w') : ∃ L : LV, r = .returned L.v ∧ LVO w' w.heap.size L ∧ L.ok v.f v.n d ∧ L.ls.length = cn v.n d ∧ L.ms.length = cn v.n d ∧ Below w.heap.size w w' := by
  obtain ⟨g1, g2, ls, ms, rfl, hr, hc, hb⟩ := h
  obtain ⟨d1, d2, d3⟩ := hc.done
  refine ⟨mkL g1 g2 (cn v.n d) ls ms, ?_, ⟨?_, ?_⟩, ⟨d1, d2, d3⟩, d1, d2, hb⟩
  · show _ = Ending.returned (.agg #[.slice (some ⟨g1, 0, none⟩) ls.length (cn v.n d), .slice (some ⟨g2, 0, none⟩) ms.length (cn v.n d)])
    rw [d1, d2]; rfl
  · show OwnV w' w.heap.size 3 1 (some ⟨g1, 0, none⟩) ls.length (cn v.n d) (iv8 ls)
    rw [d1]; exact hr.r1
  · show OwnV w' w.heap.size 3 1 (some ⟨g2, 0, none⟩) ms.length (cn v.n d) (nv8 ms)
    rw [d2]; exact hr.r2
set_option maxHeartbeats 4000000 in
theorem levelsOf_any (b : Nat) (v : VD) (w : World) (hX : VP w b v) (hv : v.rok) : Calls Tryd.prog 35 #[.pointer (some ⟨b, 0, none⟩)] w (ResLvs v w) := by
  have HWL := Lib.hid (wordLevel_any b v w hX hv)
  have hn := hv.2.1
  clear hX
  go_enter Tryd.func35, Tryd.ntmps35
  go_wp2_with fail
  refine HWL.out.mono ?_
  intro r w1 hres
  obtain ⟨L, rfl, hLO, hLk, hl1, hl2, hb1⟩ := lev_of hres
  have HLO := Lib.hid hLO; have HLK := Lib.hid hLk; have HL1 := Lib.hid hl1
  unfold LV.v
  clear hres hLO hLk HWL hl1 hl2
  go_wp2_with fail
  have o0 : OwnV (w1.alloc (.cells #[.slice L.la L.ls.length L.lc, .slice L.ma L.ms.length L.mc] 55)) w.heap.size 55 2 (some ⟨w1.heap.size, 0, none⟩) 1 1 (lvv [L]) :=
    OwnV.mono (World.ownsRow_lit (base := w1.heap.size) w1 #[.slice L.la L.ls.length L.lc, .slice L.ma L.ms.length L.mc] 1 (Nat.le_refl _) (by decide) rfl) hb1.size
  have hs2 : (w1.alloc (.cells #[.slice L.la L.ls.length L.lc, .slice L.ma L.ms.length L.mc] 55)).heap.size = w1.heap.size + 1 := by simp
  have bA := (Below.refl w1.heap.size w1).alloc (Nat.le_refl _) (.cells #[.slice L.la L.ls.length L.lc, .slice L.ma L.ms.length L.mc] 55)
  have l2 := HLO.out.below bA
  generalize w1.alloc (.cells #[.slice L.la L.ls.length L.lc, .slice L.ma L.ms.length L.mc] 55) = w2 at *
  have bB := (Below.refl w2.heap.size w2).alloc (Nat.le_refl _) (.cells #[.slice L.la L.ls.length L.lc, .slice L.ma L.ms.length L.mc] 55)
  have x3 := LBx.new w2 L
  rw [hs2] at x3
  have o3 := o0.below bB
  have l3 := l2.below bB
  generalize w2.alloc (.cells #[.slice L.la L.ls.length L.lc, .slice L.ma L.ms.length L.mc] 55) = w3 at *
  have O3 := Lib.hid o3; have X3 := Lib.hid x3
  have LV3 : Hid (Lvs v w.heap.size w3 [L]) := Lib.hid (by
    have := Lvs.push (lv := []) (w := w3) (v := v) (B := w.heap.size) ⟨(fun M hM => by cases hM), (fun d M hd => by simp at hd)⟩ l3 HLK.out
    simpa using this)
  have B3 : Hid (Below w.heap.size w w3) := Lib.hid (hb1.trans ((bA.mono hb1.size).trans (bB.mono (by have := hb1.size; omega))))
  have hsz1 := hb1.size
  clear o0 o3 l2 l3 x3 bA bB hs2 hb1
  go_loopw [3, 4] (fun s3 s4 wr => ∃ (lv : List LV) (a : Option Addr) (cap qb n : Nat) (Ld : LV), s3 = .slice a n cap ∧ s4 = .pointer (some ⟨qb, 0, none⟩) ∧ 1 ≤ n ∧ n ≤ 16 ∧ Hid (lv.length = n) ∧ Hid (OwnV wr w.heap.size 55 2 a n cap (lvv lv)) ∧ Hid (a ≠ some ⟨qb, 0, none⟩) ∧ Hid (lv[n - 1]? = some Ld) ∧ Hid (LBx wr qb Ld) ∧ Hid (Lvs v w.heap.size wr lv) ∧ Hid (Below w.heap.size w wr) ∧ w.heap.size ≤ qb ∧ Hid (∀ d, 1 ≤ d → d < n → 1 < cn v.n d)) (fun s3 _ _ => v.n / 2 ^ sh (sln s3))
  case atStart => exact ⟨[L], _, 1, _, 1, L, rfl, rfl, by omega, by omega, Lib.hid rfl, O3, Lib.hid (by simp), Lib.hid rfl, X3, LV3, B3, by omega, Lib.hid (fun d h1 h2 => by omega)⟩
  case round =>
    obtain ⟨lv, a, cap, qb, n, Ld, rfl, rfl, hn1, hn2, HLEN, HOW, HNE, HLD, HBX, HLV, HBL, hqb, HMI⟩ := hrel
    have hok := HLV.out.ok (n - 1) Ld HLD.out
    rw [show n - 1 + 1 = n by omega] at hok
    obtain ⟨k1, k2, k3⟩ := hok
    have HK1 := Lib.hid k1
    by_cases hgt : 1 < cn v.n n
    · have hlen2 : (1 : Int) < (Ld.ls.length : Int) := by rw [k1]; omega
      have hfew := few_levels hn1 hn hgt
      have hless := lev_less hn1 hgt
      have HLESS := Lib.hid hless
      have hLd := HLV.out.own Ld (List.mem_of_getElem? HLD.out)
      have HBK := Lib.hid (blockLevel_any v n Ld wr hn1 hn hLd.lvr ⟨k1, k2, k3⟩)
      unfold LV.v at HBK
      have c0 := HBX.out.c0
      have c1 := HBX.out.c1
      have HMI2 : Hid (∀ d, 1 ≤ d → d < n + 1 → 1 < cn v.n d) := Lib.hid (fun d h1 h2 => by
        rcases Nat.lt_or_ge d n with h | h
        · exact HMI.out d h1 h
        · rw [show d = n by omega]; exact hgt)
      clear hless hLd k1 k2 k3 hgt
      go_wp2_with fail
      clear c0 c1
      refine HBK.out.mono ?_
      intro r4 w4 hres
      obtain ⟨M, rfl, hMO, hMk, hm1, hm2, hb4⟩ := lev_of hres
      unfold LV.v
      have x4 := HBX.out.below hb4
      have o4 := HOW.out.below hb4
      have v4 := HLV.out.below hb4
      have b4 := HBL.out.trans (hb4.mono HBL.out.size)
      have m4 := LVO.mono hMO HBL.out.size
      have HMK := Lib.hid hMk
      have f40 := x4.fz 0
      have f41 := x4.fz 1
      have c40 := x4.c0
      have c41 := x4.c1
      have X4 := Lib.hid x4; have O4 := Lib.hid o4; have V4 := Lib.hid v4; have B4 := Lib.hid b4; have M4 := Lib.hid m4
      clear x4 o4 v4 b4 m4 hMO hMk hm1 hm2 hb4 hres HBX HOW HLV HBL HBK
      have hz4 := B4.out.size
      go_upto_region 5 with (fail)
      clear f40 f41 c40 c41
      have hty := X4.out.ty
      have t0 := Oth.setCell w4 qb 0 (.slice M.la M.ls.length M.lc)
      have t1 := Oth.setCell (w4.setCell ⟨qb, 0, none⟩ (.slice M.la M.ls.length M.lc)) qb 1 (.slice M.ma M.ms.length M.mc)
      have hne : ∀ g, a = some ⟨g, 0, none⟩ → (some ⟨qb, 0, none⟩ : Option Addr) ≠ some ⟨g, 0, none⟩ := fun g e1 e2 => HNE.out (by rw [e1]; exact e2.symm)
      have X5 := Lib.hid (X4.out.put M)
      have O5 := Lib.hid ((O4.out.oth t0 hne).oth t1 hne)
      have V5 := Lib.hid ((V4.out.oth t0 hty).oth t1 hty.set)
      have M5 := Lib.hid ((M4.out.oth t0 hty).oth t1 hty.set)
      have B5 := Lib.hid (Below.setCell (p := ⟨qb, 1, none⟩) (Below.setCell (p := ⟨qb, 0, none⟩) B4.out hqb (.slice M.la M.ls.length M.lc)) hqb (.slice M.ma M.ms.length M.mc))
      clear t0 t1 hne hty X4 O4 V4 M4 B4
      have hz5 := B5.out.size
      generalize (w4.setCell ⟨qb, 0, none⟩ (.slice M.la M.ls.length M.lc)).setCell ⟨qb, 1, none⟩ (.slice M.ma M.ms.length M.mc) = w5 at *
      have c0 := X5.out.c0
      have c1 := X5.out.c1
      go_wp2_with (refine wp_row w5 rfl _ _ 41 rfl w.heap.size 55 _ 2 48 Tryd.underlying41 infoLev rfl (by decide) a cap n (lvv lv) rfl _ rfl (by simp [Value.oneCell']) _ rfl O5.out (by omega) (by unfold maxLen; omega) hz5 ?_; intro ao' cap' w' h1 h2 h3; have H1 := Lib.hid h1; have H2 := Lib.hid h2; have X6 := Lib.hid (X5.out.oth h3 HNE.out); have H3 := Lib.hid h3; clear h1 h2 h3; have d0 := X6.out.c0; have d1 := X6.out.c1)
      obtain ⟨g, rfl, hgb⟩ : ∃ g, a = some ⟨g, 0, none⟩ ∧ LevB w5 g := by
        rcases O5.out.shape with ⟨_, _, h, _⟩ | ⟨g, cur, h1, _, h3, _⟩
        · omega
        · exact ⟨g, h1, _, _, h3⟩
      have V6 := V5.out.oth H3.out hgb
      have M6 := M5.out.oth H3.out hgb
      have hlen := HLEN.out
      have V7 := V6.push M6 (by rw [hlen]; exact HMK.out)
      have h1 : OwnV w' w.heap.size 55 2 ao' (n + 1) cap' (lvv (lv ++ [M])) := by
        rw [lvv_append]
        have := H1.out
        simpa [lvv, LV.cells] using this
      have hnew : ao' ≠ some ⟨w'.heap.size, 0, none⟩ := by
        rcases h1.shape with ⟨h, _⟩ | ⟨g', cur, h, _, hg, _⟩
        · rw [h]; intro e; cases e
        · rw [h]; intro e
          simp only [Option.some.injEq, Addr.mk.injEq, and_true] at e
          have := (Array.getElem?_eq_some_iff.1 hg).1
          omega
      have bN := (Below.refl w'.heap.size w').alloc (Nat.le_refl _) (.cells #[.slice M.la M.ls.length M.lc, .slice M.ma M.ms.length M.mc] 55)
      have B6 := B5.out.trans H2.out
      have hz6 := B6.size
      go_roundw
      case rel => exact ⟨lv ++ [M], ao', cap', w'.heap.size, n + 1, M, rfl, rfl, by omega, by omega, Lib.hid (by simp [hlen]), Lib.hid (h1.below bN), Lib.hid hnew, Lib.hid (by rw [Nat.add_sub_cancel, List.getElem?_append_right (by omega)]; simp [hlen]), Lib.hid (LBx.new w' M), Lib.hid (V7.below bN), Lib.hid (B6.trans (bN.mono hz6)), hz6, HMI2⟩
      case measure => exact HLESS.out
    · have hlen2 : ¬ (1 : Int) < (Ld.ls.length : Int) := by rw [k1]; omega
      have c0 := HBX.out.c0
      have h1n : cn v.n n = 1 := by have := Nat.succ_le_succ (Nat.zero_le (v.n / 2 ^ sh n)); unfold cn at hgt ⊢; omega
      have H1N := Lib.hid h1n
      clear k1 k2 k3 h1n hgt
      go_wp2
      go_ret
      have hl := HLEN.out
      subst hl
      exact ⟨lv, a, cap, rfl, HOW.out, HLV.out.own, HLV.out.ok, hn1, by omega, H1N.out, HMI.out, HBL.out⟩
end Go.Proofs.YtelagemniheeoaaDoor
