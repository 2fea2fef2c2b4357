/- marks: Marks walked. -/
import Derived.Test.YtibgejndlllhfaaDoorMarG
import Derived.Test.YtibgejndlllhfaaDoorMarMathC
namespace Go.Proofs.YtibgejndlllhfaaDoor
open Go.RowKit BM

theorem mcs_get : ∀ {xs : List MS} {k : Nat} {x : MS}, xs[k]? = some x → ∀ i, i < 7 → (mcs xs)[k * 7 + i]? = x.cells[i]?
  | [], _, _, h => by simp at h
  | y :: xs, 0, x, h => fun i hi => by
    simp at h; subst h
    have e : mcs (y :: xs) = y.cells ++ mcs xs := by simp [mcs]
    rw [e, Nat.zero_mul, Nat.zero_add, List.getElem?_append_left (by simpa [MS.cells] using hi)]
  | y :: xs, k + 1, x, h => fun i hi => by
    have h2 := mcs_get (xs := xs) (k := k) (x := x) (by simpa using h) i hi
    have e : mcs (y :: xs) = y.cells ++ mcs xs := by simp [mcs]
    rw [e, List.getElem?_append_right (by simp [MS.cells]; omega), ← h2]
    congr 1; simp [MS.cells]; omega
theorem OwnV.mc {w : World} {B : Nat} {e : TypeId} {g n c : Nat} {xs : List MS} (h : OwnV w B e 7 (some ⟨g, 0, none⟩) n c (mcs xs)) {k : Nat} {x : MS} (hx : xs[k]? = some x) : Mc w g (k * 7) x := by
  have f := fun i (hi : i < 7) v (hv : x.cells[i]? = some v) => h.cellAt (j := k * 7 + i) (v := v) (by rw [mcs_get hx i hi]; exact hv)
  exact ⟨f 0 (by omega) _ rfl, f 1 (by omega) _ rfl, f 2 (by omega) _ rfl, f 3 (by omega) _ rfl, f 4 (by omega) _ rfl, f 5 (by omega) _ rfl, f 6 (by omega) _ rfl⟩
theorem OwnV.rdM {w : World} {B : Nat} {e : TypeId} {a : Option Addr} {n c : Nat} {xs : List MS} (h : OwnV w B e 7 a n c (mcs xs)) : RdM w a xs := fun j x hx => by
  rcases h.shape with ⟨_, _, _, h0⟩ | ⟨g, cur, rfl, _⟩
  · have := mcs_length xs
    rw [h0] at this
    have h2 := (List.getElem?_eq_some_iff.1 hx).1
    simp at this; omega
  · exact ⟨g, 0, rfl, by rw [Nat.zero_add]; exact h.mc hx⟩
theorem fb_at {v : Int} (n : Nat) (hv : v = (n : Int)) (hn : n ≤ 9223372036854775807) (w : World) : Calls Tryd.prog 27 #[.int .i64 v] w fun e w' => e = .returned (.int .u64 (val (fb n))) ∧ w = w' := by
  subst hv; exact fb_any n hn w
theorem cellsSl : Tryd.prog.cellsOf 25 = 1 := by kernel_rfl
theorem infoSl : (Tryd.prog.info? 25).map (fun i => i.size) = some 1 := by kernel_rfl
theorem fieldIx (ao : Option Addr) (n c : Nat) (v : Value) (w : World) : (Instr.field 27 (.agg #[.slice ao n c, v]) 0).run Tryd.prog w = .ok (.slice ao n c) w := by
  have h := run_underlying (P := Tryd.prog) (w := w) Tryd.underlying27
  cases hq : Tryd.prog.info? 25 with
  | none => have := infoSl; rw [hq] at this; cases this
  | some i =>
    have h2 := infoSl
    rw [hq] at h2
    have hz : i.size = 1 := by simpa using h2
    simp [Instr.field, h, part, asAgg, isAgg, typeInfo, sizeOf, hq, hz, go_sem]
def ResMk (L : List (Nat × Nat)) (w : World) (e : Ending) (w' : World) : Prop :=
  ∃ a c, e = .returned (.slice a L.length c) ∧ OwnV w' w.heap.size 37 2 a L.length c (mkc L) ∧ Below w.heap.size w w'
theorem infoMark : (Tryd.prog.info? 37).map (fun i => (i.zero, i.size, i.bytes)) = some (some (.agg #[.int .i64 0, .int .u8 0]), 2, 16) := by kernel_rfl
set_option maxRecDepth 100000 in
set_option maxHeartbeats 4000000 in
theorem Marks_any (a : Option Addr) (cap : Nat) (l : List Nat) (w : World) (hT : Tb w) (hl : l.length ≤ 1000000000000) (hcap : l.length ≤ cap) (hr : Rd w .u8 a l) :
    Calls Tryd.prog 16 #[.slice a l.length cap] w (ResMk (mkL l l.length) w) := by
  have HT := Lib.hid hT
  have HR := Lib.hid hr
  clear hr hT
  have fi := fieldIx
  go_enter Tryd.func16, Tryd.ntmps16
  go_wp2_with (refine (Build_any a cap l _ (by omega) hcap HR.out).mono ?_; rintro e w1 ⟨ao, c, rfl, ho, hb⟩; have HO := Lib.hid ho; have B1 := Lib.hid hb; clear ho hb)
  clear fi
  have hnl : nw l.length ≤ 15625000001 := by unfold nw; omega
  have HNW : Hid (nw l.length = (l.length + 63) / 64) := Lib.hid rfl
  generalize nw l.length = n at *
  go_loopw [3, 4, 17] (fun s3 s4 s17 wr => ∃ (k : Nat) (rr : Bool) (ao2 : Option Addr) (c2 : Nat), k ≤ n ∧ s17 = .int .i64 k ∧ s4 = .bool rr ∧ s3 = .slice ao2 (mkL l (64 * k)).length c2 ∧ Hid (64 * k < l.length → rr = pr l (64 * k)) ∧ Hid (OwnV wr w1.heap.size 37 2 ao2 (mkL l (64 * k)).length c2 (mkc (mkL l (64 * k)))) ∧ Hid (Below w1.heap.size w1 wr)) (fun _ _ s17 _ => n - (intOf s17).toNat)
  case atStart => exact ⟨0, false, none, 0, by omega, rfl, rfl, rfl, Lib.hid (fun _ => rfl), Lib.hid (OwnV.nil _ _ _ _), Lib.hid (Below.refl _ _)⟩
  case round =>
    obtain ⟨k, rr, ao2, c2, hk, rfl, rfl, rfl, HRR, HO2, BR⟩ := hrel
    by_cases hlt : k < n
    · have hkl : 64 * k < l.length := by have := HNW.out; omega
      have hmk := mkL_le l (64 * k)
      have hx := wds_get l hlt
      obtain ⟨g, cur, rfl, hg1, hg2, hg3, _⟩ : ∃ g cur, ao = some ⟨g, 0, none⟩ ∧ w.heap.size ≤ g ∧ w1.heap[g]? = some (.cells cur 49 (0, 0)) ∧ n ≤ c ∧ c ≤ maxLen := by
        rcases HO.out.shape with ⟨_, _, h, _⟩ | h
        · omega
        · exact h
      obtain ⟨m0, m1, m2, m3, m4, m5, m6⟩ := (HO.out.below BR.out).mc hx
      have HK := Lib.hid (HRR.out hkl)
      have HOT := Lib.hid (show (wd l k).rs &&& fb (l.length - 64 * k) = othB l k from rfl)
      have HBE := Lib.hid (show bk (andNot (othB l k) (othB l k <<< 1)) (pr l (64 * k)) = begB l k from rfl)
      have HLE := Lib.hid (show ((wd l k).q &&& (wd l k).n) ||| (wd l k).sg ||| begB l k = leftB l k from rfl)
      have HRU := Lib.hid (run_next l k)
      clear hx hg2
      generalize wd l k = x at *
      go_upto_region 7 with (fail)
      clear m0 m1 m2 m3 m4 m5 m6
      have M1 := MbB.mk wr x (0, 0)
      have bz := (Below.refl wr.heap.size wr).alloc (Nat.le_refl _) (.cells #[.int .u64 (val x.q), .int .u64 (val x.n), .int .u64 (val x.o), .int .u64 (val x.c), .int .u64 (val x.k), .int .u64 (val x.m), .int .u64 (val x.s)] 49)
      have BR1 := Lib.hid (BR.out.trans (bz.mono BR.out.size))
      have HO3 := Lib.hid (HO2.out.below bz)
      have hsz : wr.heap.size < (wr.alloc (.cells #[.int .u64 (val x.q), .int .u64 (val x.n), .int .u64 (val x.o), .int .u64 (val x.c), .int .u64 (val x.k), .int .u64 (val x.m), .int .u64 (val x.s)] 49)).heap.size := by simp
      generalize wr.alloc (.cells #[.int .u64 (val x.q), .int .u64 (val x.n), .int .u64 (val x.o), .int .u64 (val x.c), .int .u64 (val x.k), .int .u64 (val x.m), .int .u64 (val x.s)] 49) = w2 at *
      clear bz HO2 BR
      generalize wr.heap.size = mb' at *
      have HG := Lib.hid (rest_any x)
      unfold MS.v MS.cells at HG
      have hsub : (l.length : Int) - (k : Int) * 64 = ((l.length - 64 * k : Nat) : Int) := by omega
      have HF := Lib.hid (fun w => fb_at (l.length - 64 * k) hsub (by omega) w)
      clear hsub
      generalize fb (l.length - 64 * k) = fbv at *
      obtain ⟨m0, m1, m2, m3, m4, m5, m6⟩ := (MbB.mx M1).out
      go_upto_if 36 with (first | ((with_reducible refine (HG.out _).mono ?_); rintro e w3 ⟨rfl, hb⟩; have HB3 := Lib.hid hb; clear hb) | ((with_reducible refine (HF.out _).mono ?_); rintro e w4 ⟨rfl, rfl⟩))
      clear m0 m1 m2 m3 m4 m5 m6
      rw [u_and, HOT.out, u_shl1, u_andNot]
      go_cut [9] (fun s9 wx => s9 = .int .u64 (val (begB l k)) ∧ w3 = wx)
      case first =>
        cases rr
        · go_wp2
          go_meet
          exact ⟨by rw [← HBE.out, ← HK.out, bk_f], rfl⟩
        · go_wp2
          go_meet
          exact ⟨by rw [← HBE.out, ← HK.out, k_bk1], rfl⟩
      case rest =>
        obtain ⟨rfl, rfl⟩ := hcut
        have M3 := MbB.below M1 HB3.out
        have BR3 := Lib.hid (BR1.out.trans (HB3.out.mono BR1.out.size))
        have HO4 := Lib.hid (HO3.out.below HB3.out)
        clear HO3 BR1 M1 HB3 HG HF
        have HS := Lib.hid (signs_any x)
        generalize hsg : x.sg = sg at *
        unfold MS.v MS.cells at HS
        go_upto_region 12 with (fail)
        obtain ⟨m0, m1, m2, m3, m4, m5, m6⟩ := (MbB.mx M3).out
        have MM := MbB.mx M3
        go_region_held3 (fun w' => w'.cell? ⟨mb', 0, none⟩ = some (.int .u64 (val x.q)) ∧ w'.cell? ⟨mb', 1, none⟩ = some (.int .u64 (val x.n)) ∧ w'.cell? ⟨mb', 2, none⟩ = some (.int .u64 (val x.o)) ∧ w'.cell? ⟨mb', 3, none⟩ = some (.int .u64 (val x.c)) ∧ w'.cell? ⟨mb', 4, none⟩ = some (.int .u64 (val x.k)) ∧ w'.cell? ⟨mb', 5, none⟩ = some (.int .u64 (val x.m)) ∧ w'.cell? ⟨mb', 6, none⟩ = some (.int .u64 (val x.s)))
          (first | exact MN.out | exact MM.out)
          (first | (go_at_call 28; refine (HS.out _).mono ?_; rintro e w5 ⟨rfl, hb⟩; have hb1 := (Below.refl w3.heap.size w3).drew.trans hb; have MN := Mx.below MM hb1))
        clear m0 m1 m2 m3 m4 m5 m6 MN MM
        rw [b63']
        have HLV : Hid (bits .or .u64 (bits .or .u64 (bits .and .u64 (val x.q) (val x.n)) (val sg)) (val (begB l k)) = val (hiB (leftB l k) 0)) := Lib.hid (by rw [u_and, u_or, u_or, hiB_zero]; exact congrArg val HLE.out)
        have BR5 := Lib.hid (BR3.out.trans (hb1.mono BR3.out.size))
        have HO5 := Lib.hid (HO4.out.below hb1)
        clear hb hb1 HO4 BR3 M3 HS
        go_wp2_with fail
        go_loopw [3, 10] (fun s3 s10 wq => ∃ (j : Nat) (ao3 : Option Addr) (c3 : Nat), j ≤ 64 ∧ s10 = .int .u64 (val (hiB (leftB l k) j)) ∧ s3 = .slice ao3 (mkL l (64 * k + j)).length c3 ∧ Hid (OwnV wq w1.heap.size 37 2 ao3 (mkL l (64 * k + j)).length c3 (mkc (mkL l (64 * k + j)))) ∧ Hid (Below w1.heap.size w1 wq)) (fun _ s10 _ => (intOf s10).toNat)
        case atStart => exact ⟨0, ao2, c2, by omega, by rw [HLV.out], rfl, HO5, BR5⟩
        case round =>
          obtain ⟨j, ao3, c3, hj, rfl, rfl, HO6, BR6⟩ := hrel
          by_cases hz : hiB (leftB l k) j = 0#64
          · have hv : val (hiB (leftB l k) j) = 0 := by rw [hz]; rfl
            have HE : Hid (mkL l (64 * (k + 1)) = mkL l (64 * k + j)) := Lib.hid (mkL_done hj hz)
            generalize val (hiB (leftB l k) j) = fv at *
            subst hv
            clear hz
            go_wp2
            go_roundw
            case rel => exact ⟨k + 1, _, ao3, c3, by omega, by go_num, rfl, by rw [HE.out], HRU, by rw [HE.out]; exact HO6, BR6⟩
            case measure => simp [intOf]; omega
          · obtain ⟨n1, n2, n3, _, _⟩ := hiB_next hz
            obtain ⟨hnx, hmb⟩ := mkL_next hz
            have hkd := kind_is l k n3 hmb
            have HLO := Lib.hid n1
            have HLT := Lib.hid (lowB_lt hz)
            have HLW := Lib.hid (u_low (hiB (leftB l k) j))
            have HTZ := Lib.hid (fun w hT => tz_any (hiB (leftB l k) j) hz w hT)
            have hv : val (hiB (leftB l k) j) ≠ 0 := by rw [i_0]; intro e; exact hz (by have := u_eq (hiB (leftB l k) j) 0#64; rw [e] at this; simpa using this.symm)
            have hpl : 64 * k + tz (hiB (leftB l k) j) < l.length := by unfold mb at hmb; simp at hmb; exact hmb.1
            have hov := opens_val (begB l k) (tz (hiB (leftB l k) j))
            generalize tz (hiB (leftB l k) j) = q at *
            have HNX := Lib.hid hnx
            have HW6 := Lib.hid (B1.out.trans (BR6.out.mono B1.out.size))
            obtain ⟨pb, po, y, ha, HY, hc⟩ := (HR.out.below HW6.out).byte (64 * k + q) hpl
            subst ha
            rw [show 64 * k + q = k * 64 + q by omega] at hc
            have hkd2 : (if bitAt (begB l k) q = true then 48 else y) = kd l (64 * k + q) := by rw [← HY.out]; exact hkd
            have HKD := Lib.hid hkd2
            have hq1 : (k : Int) * 64 + q < l.length := by omega
            have hml := mkL_le l (64 * k + j)
            clear n1 hz hnx hmb hkd hkd2 hpl
            go_upto_if 70 with ((with_reducible refine (HTZ.out _ (HT.out.below HW6.out)).mono ?_); rintro e w' ⟨rfl, rfl⟩)
            go_cut [12] (fun s12 wx => s12 = .int .u8 (kd l (64 * k + q) : Nat) ∧ wr = wx)
            case first =>
              cases hb : bitAt (begB l k) q
              · rw [hb] at hov HKD
                have hov2 : bits .and .u64 (val (begB l k) / 2 ^ q) 1 = 0 := hov
                have HE : Hid (y = kd l (64 * k + q)) := Lib.hid (by have := HKD.out; simpa using this)
                clear hov hb
                go_wp2
                go_meet
                exact ⟨by rw [HE.out], rfl⟩
              · rw [hb] at hov HKD
                have hov2 : bits .and .u64 (val (begB l k) / 2 ^ q) 1 = 1 := hov
                have HE : Hid (48 = kd l (64 * k + q)) := Lib.hid (by have := HKD.out; simpa using this)
                clear hov hb
                go_wp2
                go_meet
                exact ⟨by rw [← HE.out]; rfl, rfl⟩
            case rest =>
              obtain ⟨rfl, rfl⟩ := hcut
              clear hov hc hv
              have HCA : Hid (#[Value.int .i64 ((k : Int) * 64 + q), .int .u8 (kd l (64 * k + q) : Nat)].toList = [.int .i64 ((64 * k + q : Nat) : Int), .int .u8 (kd l (64 * k + q) : Nat)]) := Lib.hid (by simp; omega)
              generalize kd l (64 * k + q) = kk at *
              have hBz := BR6.out.size
              go_wp2_with (refine wp_row _ rfl _ _ 34 rfl w1.heap.size 37 _ 2 16 Tryd.underlying34 infoMark rfl (by decide) ao3 c3 (mkL l (64 * k + j)).length _ rfl _ rfl (by intro u hu; simp at hu; rcases hu with rfl | rfl <;> rfl) _ rfl HO6.out (by omega) (by unfold maxLen; omega) hBz ?_; intro ao4 c4 w7 h1 h2 h3; rw [HCA.out, ← mkc_snoc] at h1; have H1 := Lib.hid h1; have H2 := Lib.hid (BR6.out.trans h2); clear h1 h2 h3)
              go_roundw
              case rel => exact ⟨q + 1, ao4, c4, by omega, by rw [HLW.out, HLO.out], by rw [HNX.out]; simp, by rw [HNX.out]; simpa using H1, H2⟩
              case measure =>
                rw [HLW.out]
                simp [intOf, val]
                exact HLT.out
    · have HE : Hid (mkL l (64 * k) = mkL l l.length) := Lib.hid (mkL_all l _ (by have := HNW.out; omega))
      rw [HE.out] at HO2 ⊢
      go_wp2
      go_ret
      exact ⟨ao2, c2, rfl, HO2.out.mono B1.out.size, B1.out.trans (BR.out.mono B1.out.size)⟩
end Go.Proofs.YtibgejndlllhfaaDoor
