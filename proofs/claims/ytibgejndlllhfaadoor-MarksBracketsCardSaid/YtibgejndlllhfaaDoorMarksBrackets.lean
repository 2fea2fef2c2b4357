/- The document's Pack, and the law MarksBrackets, walked. -/
import Derived.Test.YtibgejndlllhfaaDoorMarT
namespace Go.Proofs.YtibgejndlllhfaaDoor
open Go.RowKit BM

theorem put_wb (bs : List Bool) (b : Bool) : put (wb bs (bs.length / 64)) (bs.length % 64) b = wb bs (bs.length / 64) ||| (bit0 b <<< (bs.length % 64)) := by
  unfold put
  have e : (if b = true then 1#64 <<< (bs.length % 64) else 0#64) = bit0 b <<< (bs.length % 64) := by
    unfold bit0
    cases b <;> simp
  rw [e, BitVec.add_eq_or_of_and_eq_zero]
  apply BM.ext
  intro i hi
  have hb0 : ∀ j, (bit0 b).getLsbD j = (b && decide (j = 0)) := fun j => by unfold bit0; cases b <;> simp [BitVec.getLsbD_one]
  rw [BitVec.getLsbD_and, BitVec.getLsbD_shiftLeft, hb0]
  by_cases c : i = bs.length % 64
  · subst c
    unfold wb
    rw [mk_bit, List.getElem?_eq_none (by omega)]; simp
  · by_cases d : i < bs.length % 64
    · simp [d]
    · have : i - bs.length % 64 ≠ 0 := by omega
      simp [this]
theorem With_at {iv : Int} (x : BitVec 64) (i : Nat) (on : Bool) (hv : iv = (i : Int)) (hi : i < 64) (w : World) :
    Calls Tryd.prog 33 #[.int .u64 (val x), .int .i64 iv, .bool on] w fun e w' => e = .returned (.int .u64 (val (put x i on))) ∧ w = w' := by
  subst hv; exact With_any x i on hi w
theorem take_snocB {L : List Bool} {k : Nat} {b : Bool} (h : L[k]? = some b) : L.take (k + 1) = L.take k ++ [b] := by
  rw [List.take_add_one, h]; rfl
def ResPk (L : List Bool) (w : World) (e : Ending) (w' : World) : Prop :=
  ∃ ao cp, e = .returned (.slice ao (nw L.length) cp) ∧ OwnV w' w.heap.size 46 1 ao (nw L.length) cp (cs .u64 (pkn L (nw L.length))) ∧ Below w.heap.size w w'
set_option maxRecDepth 100000 in
set_option maxHeartbeats 2000000 in
theorem Pack_any (a : Option Addr) (cap : Nat) (L : List Bool) (w : World) (hn : L.length ≤ 166400000000000) (hr : ∀ j b, L[j]? = some b → ∃ g, a = some ⟨g, 0, none⟩ ∧ w.cell? ⟨g, j, none⟩ = some (.bool b)) :
    Calls Tryd.prog 22 #[.slice a L.length cap] w (ResPk L w) := by
  have HR := Lib.hid hr
  clear hr
  go_enter Tryd.func22, Tryd.ntmps22
  go_wp2_with fail
  go_loopw [3, 4] (fun s3 s4 wr => ∃ (i : Nat) (ao : Option Addr) (cp : Nat), i ≤ L.length ∧ s4 = .int .i64 i ∧ s3 = .slice ao (nw i) cp ∧ Hid (OwnV wr w.heap.size 46 1 ao (nw i) cp (cs .u64 (pkn (L.take i) (nw i)))) ∧ Hid (Below w.heap.size w wr)) (fun _ s4 _ => L.length - (intOf s4).toNat)
  case atStart => exact ⟨0, none, 0, by omega, rfl, rfl, Lib.hid (OwnV.nil _ _ _ _), Lib.hid (Below.refl _ _)⟩
  case round =>
    obtain ⟨i, ao, cp, hi, rfl, rfl, HO, BR⟩ := hrel
    by_cases hlt : i < L.length
    · obtain ⟨b, hb⟩ : ∃ b, L[i]? = some b := ⟨_, List.getElem?_eq_getElem hlt⟩
      obtain ⟨gl, rfl, hc⟩ := HR.out i b hb
      have HC0 := Lib.hid hc
      have HTS := Lib.hid (take_snocB hb)
      have htl : (L.take i).length = i := by simp; omega
      have HPW := Lib.hid (put_wb (L.take i) b)
      have HRM := Lib.hid (fun h => pkn_room (bs := L.take i) h)
      have HPS := Lib.hid (pkn_set (L.take i) b)
      have HNM := Lib.hid (fun h => nw_no (n := i) h)
      have HNY := Lib.hid (fun h => nw_yes (n := i) h)
      rw [htl] at HPW HRM HPS
      have HTL := Lib.hid htl
      clear hb hc htl
      generalize L.take i = T at *
      go_upto_if 13 with (fail)
      go_cut [3] (fun s3 wx => ∃ ao2 cp2, s3 = .slice ao2 (i / 64 + 1) cp2 ∧ Hid (OwnV wx w.heap.size 46 1 ao2 (i / 64 + 1) cp2 (cs .u64 (pkn T (i / 64 + 1)))) ∧ Hid (Below w.heap.size w wx))
      case first =>
        have hBz := BR.out.size
        by_cases hc : i % 64 = 0
        · have hc3 : (i : Int) % 64 = 0 := by omega
          have e := HNY.out hc
          have h5 := HRM.out hc
          have HE := Lib.hid e; have H5 := Lib.hid h5
          clear hc e h5
          go_wp2_with (refine wp_row _ rfl _ _ 40 rfl w.heap.size 46 (.int .u64 0) 1 8 Tryd.underlying40 infoU64 rfl (by decide) ao cp (nw i) _ rfl _ rfl (by simp [Value.oneCell']) _ rfl HO.out (by unfold nw; omega) (by unfold nw maxLen; omega) hBz ?_; intro ao' cap' w' h1 h2 h3; have H1 := Lib.hid h1; have H2 := Lib.hid h2; clear h1 h2 h3)
          go_meet
          have h1 := H1.out
          rw [show cs .u64 (pkn T (nw i)) ++ (#[Value.int .u64 0] : Array Value).toList = cs .u64 (pkn T (nw i) ++ [0]) by rw [cs_append]; rfl, H5.out, HE.out] at h1
          exact ⟨ao', cap', by rw [← HE.out], Lib.hid h1, Lib.hid (BR.out.trans H2.out)⟩
        · have hc3 : ¬ (i : Int) % 64 = 0 := by omega
          have e := HNM.out hc
          have HE := Lib.hid e
          clear hc e
          go_wp2
          go_meet
          exact ⟨ao, cp, by rw [← HE.out], by rw [← HE.out]; exact HO, BR⟩
      case rest =>
        obtain ⟨ao2, cp2, rfl, HO3, BR3⟩ := hcut
        obtain ⟨g, cur, rfl, hBg, hgb, hcap⟩ : ∃ g cur, ao2 = some ⟨g, 0, none⟩ ∧ w.heap.size ≤ g ∧ wc.heap[g]? = some (.cells cur 46 (0, 0)) ∧ i / 64 + 1 ≤ cp2 := by
          rcases HO3.out.shape with ⟨_, _, h, _⟩ | ⟨g, cur, h1, h2, h3, h4, _⟩
          · omega
          · exact ⟨g, cur, h1, h2, h3, h4⟩
        clear hgb
        have hk0 : wc.cell? ⟨g, i / 64, none⟩ = some (.int .u64 (val (wb T (i / 64)))) := HO3.out.cellAt (by rw [cs_get (by rw [pkn_length]; omega), pkn_get _ (by omega)]; rfl)
        have hkf : wc.frozen? ⟨g, i / 64, none⟩ = false := HO3.out.frozen _
        have hcl : wc.cell? ⟨gl, i, none⟩ = some (.bool b) := cellW BR3.out HC0.out
        have HW := Lib.hid (fun w => With_at (wb T (i / 64)) (i % 64) b (show (i : Int) % 64 = ((i % 64 : Nat) : Int) by omega) (by omega) w)
        have q1 : (i : Int) / 64 < ((i / 64 + 1 : Nat) : Int) := by omega
        have hw1 : IntKind.i64.wrap ((i : Int) / 64) = (i : Int) / 64 := IntWalk.i64_in _ (by omega)
        have hw2 : ((i : Int)).tmod 64 = (i : Int) % 64 := Int.tmod_eq_emod_of_nonneg (by omega)
        have q0 : (0 : Int) ≤ (i : Int) / 64 := by omega
        have q2 : (i : Int) / 64 < (i : Int) / 64 + 1 := by omega
        have q3 : ((i : Int) / 64).toNat = i / 64 := by omega
        go_upto_region 7 with (fail)
        go_region_law (go_simp; go_at_call 33; refine (HW.out _).mono ?_; rintro e w' ⟨rfl, rfl⟩)
        all_goals
          have HO5 : Hid (OwnV ((wc.setCell ⟨g, i / 64, none⟩ (.int .u64 (val (put (wb T (i / 64)) (i % 64) b)))).drew) w.heap.size 46 1 (some ⟨g, 0, none⟩) (nw (i + 1)) cp2 (cs .u64 (pkn (T ++ [b]) (nw (i + 1))))) := Lib.hid (by
            have h := HO3.out.set (i / 64) (.int .u64 (val (put (wb T (i / 64)) (i % 64) b)))
            rw [HPW.out] at h ⊢
            rw [show (val (wb T (i / 64) ||| (bit0 b <<< (i % 64)))) = ((wb T (i / 64) ||| (bit0 b <<< (i % 64))).toNat : Int) from rfl, ← cs_set, HPS.out] at h
            rw [nw_succ]
            exact h)
          have BR5 : Hid (Below w.heap.size w ((wc.setCell ⟨g, i / 64, none⟩ (.int .u64 (val (put (wb T (i / 64)) (i % 64) b)))).drew)) := Lib.hid ((BR3.out.setCell hBg _).drew)
          generalize (wc.setCell ⟨g, i / 64, none⟩ (.int .u64 (val (put (wb T (i / 64)) (i % 64) b)))).drew = we at *
          clear hk0 hkf hcl hw1 hw2 q0 q1 q2 q3
          have hin : (i : Int) + 1 ≤ 9223372036854775807 := by omega
          go_wp2
          go_roundw
          case rel => exact ⟨i + 1, some ⟨g, 0, none⟩, cp2, by omega, by go_num, by rw [nw_succ], by rw [HTS.out]; exact HO5, BR5⟩
          case measure => simp [intOf]; omega
    · have HE : Hid (i = L.length) := Lib.hid (by omega)
      rw [HE.out] at HO ⊢
      go_wp2
      go_ret
      have e : L.take L.length = L := List.take_length
      exact ⟨ao, cp, rfl, by have := HO.out; rwa [e] at this, BR.out⟩
set_option maxRecDepth 100000 in
set_option maxHeartbeats 2000000 in
theorem MarksBrackets_any (a : Option Addr) (cap : Nat) (xs : List MS) (len : Int) (w : World) (hT : Tb w) (hr : RdM w a xs) (hn : xs.length ≤ 2600000000000) (_hl : -9223372036854775808 ≤ len ∧ len ≤ 9223372036854775807) :
    Calls Tryd.prog 7 #[.agg #[.slice a xs.length cap, .int .i64 len]] w fun e w' => e = .returned (.bool true) ∧ Below w.heap.size w w' := by
  have HT := Lib.hid hT
  have HR := Lib.hid hr
  clear hT hr
  go_enter Tryd.func7, Tryd.ntmps7
  go_wp2_with fail
  have I0 := Ix.mk w a xs.length cap len 27 (0, 0)
  have B0 := Lib.hid ((Below.refl w.heap.size w).alloc (Nat.le_refl _) (.cells #[.slice a xs.length cap, .int .i64 len] 27))
  generalize w.alloc (.cells #[.slice a xs.length cap, .int .i64 len] 27) = w0 at *
  refine (shown_any _ (HT.out.below B0.out)).mono ?_
  rintro r w1 ⟨rfl, hb⟩
  have B1 := Lib.hid (B0.out.trans (hb.mono B0.out.size))
  have I1 := Ix.below I0 hb
  clear hb I0 B0
  obtain ⟨x0, x1⟩ := I1.out
  go_wp2_with fail
  refine (Brackets_any a cap xs len _ (HT.out.below B1.out) (HR.out.below B1.out) hn).mono ?_
  rintro r w2 ⟨a2, c2, rfl, ho, hb⟩
  have B2 := Lib.hid (B1.out.trans (hb.mono B1.out.size))
  have I2 := Ix.below I1 hb
  have HO2 := Lib.hid ho
  clear hb I1 B1 x0 x1 ho
  obtain ⟨x0, x1⟩ := I2.out
  go_wp2_with fail
  refine (BracketsR_any a cap xs len _ (HR.out.below B2.out) hn).mono ?_
  rintro r w3 ⟨a3, c3, rfl, ho, hb⟩
  have B3 := Lib.hid (B2.out.trans (hb.mono B2.out.size))
  have HO3 := Lib.hid (HO2.out.below hb)
  have HL3 : Hid (∀ j b, (brs xs)[j]? = some b → ∃ g, a3 = some ⟨g, 0, none⟩ ∧ w3.cell? ⟨g, j, none⟩ = some (.bool b)) := Lib.hid (fun j b hj => by
    rcases ho.shape with ⟨_, _, h, _⟩ | ⟨g, cur, rfl, _⟩
    · have := (List.getElem?_eq_some_iff.1 hj).1; omega
    · exact ⟨g, rfl, ho.cellAt (bcs_get hj)⟩)
  have hbl := brs_length xs
  clear hb I2 B2 x0 x1 ho HO2
  generalize brs xs = L at *
  go_wp2_with fail
  refine (Pack_any a3 c3 L _ (by omega) HL3.out).mono ?_
  rintro r w4 ⟨a4, c4, rfl, ho, hb⟩
  have B4 := Lib.hid (B3.out.trans (hb.mono B3.out.size))
  have HO4 := Lib.hid (HO3.out.below hb)
  have HP4 := Lib.hid ho
  clear hb ho HO3 B3
  obtain ⟨m, hm⟩ : ∃ m, nw L.length = m := ⟨_, rfl⟩
  have hm2 : m ≤ 2600000000001 := by rw [← hm]; unfold nw; omega
  rw [hm] at HO4 HP4 ⊢
  clear hm
  go_wp2_with fail
  go_loopw [8] (fun s8 wr => ∃ i : Nat, i ≤ m ∧ s8 = .int .i64 i ∧ Hid (Below w4.heap.size w4 wr)) (fun s8 _ => m - (intOf s8).toNat)
  case atStart => exact ⟨0, by omega, rfl, Lib.hid (Below.refl _ _)⟩
  case round =>
    obtain ⟨i, hi, rfl, BR⟩ := hrel
    by_cases hlt : i < m
    · obtain ⟨g2, rfl⟩ : ∃ g, a2 = some ⟨g, 0, none⟩ := by
        rcases HO4.out.shape with ⟨_, _, h, _⟩ | ⟨g, cur, h, _⟩
        · omega
        · exact ⟨g, h⟩
      obtain ⟨g4, rfl⟩ : ∃ g, a4 = some ⟨g, 0, none⟩ := by
        rcases HP4.out.shape with ⟨_, _, h, _⟩ | ⟨g, cur, h, _⟩
        · omega
        · exact ⟨g, h⟩
      have k2 := (HO4.out.below BR.out).cellAt (j := i) (cs_get (k := .u64) (by rw [pkn_length]; exact hlt))
      have k4 := (HP4.out.below BR.out).cellAt (j := i) (cs_get (k := .u64) (by rw [pkn_length]; exact hlt))
      generalize (pkn L m)[i]?.getD 0 = v at *
      have hlt2 : (i : Int) < m := by omega
      have hi0 : (0 : Int) ≤ i := by omega
      go_upto_region 10 with (fail)
      go_quiet (fail)
      have BR2 : Hid (Below w4.heap.size w4 (wr.drewN nq)) := Lib.hid (bdN BR.out nq)
      clear k2 k4
      generalize wr.drewN nq = w5 at *
      have hin : (i : Int) + 1 ≤ 9223372036854775807 := by omega
      go_wp2
      go_roundw
      case rel => exact ⟨i + 1, by omega, by go_num, BR2⟩
      case measure => simp [intOf]; omega
    · go_wp2
      go_ret
      exact ⟨rfl, B4.out.trans (BR.out.mono B4.out.size)⟩
end Go.Proofs.YtibgejndlllhfaaDoor
