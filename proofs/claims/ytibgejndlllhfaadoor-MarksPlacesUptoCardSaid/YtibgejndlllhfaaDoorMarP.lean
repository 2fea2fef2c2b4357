/- The document's Marks walked. -/
import Derived.Test.YtibgejndlllhfaaDoorMarL
import Derived.Deep.DeepCutAuto
namespace Go.Proofs.YtibgejndlllhfaaDoor
open Go.RowKit BM

theorem Cx.belowB {B : Nat} {w w' : World} {b : Nat} {x y : Bool} (h : Hid (Cx w b x y)) (hb : Below B w w') (hB : b < B) : Hid (Cx w' b x y) := Lib.hid ⟨by rw [hb.cell hB]; exact h.out.1, by rw [hb.cell hB]; exact h.out.2⟩
theorem Fz.belowB {B : Nat} {w w' : World} {b : Nat} (h : Hid (Fz w b)) (hb : Below B w w') (hB : b < B) : Hid (Fz w' b) := Lib.hid fun k => by rw [hb.frozen (p := ⟨b, k, none⟩) hB]; exact h.out k
theorem Fz.set {W : World} {b : Nat} (h : Hid (Fz W b)) (p : Addr) (v : Value) : Hid (Fz (W.setCell p v) b) := Lib.hid fun k => by rw [World.frozen?_setCell]; exact h.out k
def kdv (wv : Nat) (iv rr : Bool) (y : Nat) : Nat :=
  if wv = 113 then (if iv then 34 else 0) else if wv = 111 ∨ wv = 99 ∨ wv = 58 ∨ wv = 44 then y else if wv = 0 then (if !iv && !rr then 48 else 0) else 0
theorem mkL_succ (l : List Nat) {i : Nat} (h : i < l.length) : mkL l (i + 1) = mkL l i ++ (if kd l i = 0 then [] else [(i, kd l i)]) := by
  unfold mkL
  rw [pick_succ]
  unfold mb
  by_cases c : kd l i = 0 <;> simp [h, c]
set_option maxRecDepth 100000 in
set_option maxHeartbeats 4000000 in
theorem MarksR_any (a : Option Addr) (cap : Nat) (l : List Nat) (w : World) (hl : l.length ≤ 1000000000000) (_hcap : l.length ≤ cap) (hr : Rd w .u8 a l) :
    Calls Tryd.prog 17 #[.slice a l.length cap] w (ResMk (mkL l l.length) w) := by
  have HR := Lib.hid hr
  clear hr
  go_enter Tryd.func17, Tryd.ntmps17
  go_wp2_with fail
  have hC := Cx.new w false false 51
  have hF : Hid (Fz (w.alloc (.cells #[.bool false, .bool false] 51)) w.heap.size) := Lib.hid (fun k => by simp)
  have B0 := Lib.hid ((Below.refl w.heap.size w).alloc (Nat.le_refl _) (.cells #[.bool false, .bool false] 51))
  have hs0 : Hid (w.heap.size + 1 ≤ (w.alloc (.cells #[.bool false, .bool false] 51)).heap.size) := Lib.hid (by simp)
  generalize w.alloc (.cells #[.bool false, .bool false] 51) = w0 at *
  go_loopw [3, 5, 6] (fun s3 s5 s6 wr => ∃ (i : Nat) (ao : Option Addr) (c2 : Nat), i ≤ l.length ∧ s6 = .int .i64 i ∧ s5 = .bool (pr l i) ∧ s3 = .slice ao (mkL l i).length c2 ∧ Hid (Cx wr w.heap.size (stO l false i) (stI l false false i)) ∧ Hid (Fz wr w.heap.size) ∧ Hid (OwnV wr (w.heap.size + 1) 37 2 ao (mkL l i).length c2 (mkc (mkL l i))) ∧ Hid (Below w.heap.size w wr) ∧ Hid (w.heap.size + 1 ≤ wr.heap.size)) (fun _ _ s6 _ => l.length - (intOf s6).toNat)
  case atStart => exact ⟨0, none, 0, by omega, rfl, rfl, rfl, hC, hF, Lib.hid (OwnV.nil _ _ _ _), B0, hs0⟩
  case round =>
    obtain ⟨i, ao, c2, hi, rfl, rfl, rfl, HC, FC, HO, BR, HZ⟩ := hrel
    by_cases hlt : i < l.length
    · obtain ⟨b, off, y, ha, HY, hc⟩ := (HR.out.below BR.out).byte i hlt
      subst ha
      have hmk := mkL_le l i
      have HK : Hid (kd l i = kdv (what y (stO l false i) (stI l false false i)) (inn l i) (pr l i) y) := Lib.hid (by rw [← HY.out]; rfl)
      have HI : Hid (nextIn y (stO l false i) (stI l false false i) = inn l i) := Lib.hid (by rw [← HY.out]; rfl)
      have HOd : Hid (nextOdd y (stO l false i) = stO l false (i + 1)) := Lib.hid (by rw [← HY.out]; rfl)
      have HP : Hid (pr l (i + 1) = (decide (what y (stO l false i) (stI l false false i) = 0) && !inn l i)) := Lib.hid (by rw [← HY.out]; rfl)
      have HS := Lib.hid (mkL_succ l hlt)
      have HII : Hid (stI l false false (i + 1) = inn l i) := Lib.hid rfl
      have HYN : Hid ((what y (stO l false i) (stI l false false i) = 111 ∨ what y (stO l false i) (stI l false false i) = 99 ∨ what y (stO l false i) (stI l false false i) = 58 ∨ what y (stO l false i) (stI l false false i) = 44) → y ≠ 0) := Lib.hid (by
        rw [← HY.out]
        intro h
        have := (cl_sign (l := l) (p := i) h).1
        show byte l i ≠ 0
        omega)
      go_upto_region 7 with (fail)
      go_cut [7, 8, 9] (fun s7 s8 s9 wx => MeetS (what y (stO l false i) (stI l false false i)) (nextIn y (stO l false i) (stI l false false i)) (nextOdd y (stO l false i)) wr s7 s8 s9 wx)
      case first =>
        obtain ⟨c0, c1⟩ := HC.out
        have hst := Lib.hid (Step_any y (stO l false i) (stI l false false i))
        have bwz : Below wr.heap.size wr (wr.alloc (.cells #[.bool false, .bool false] 51)) := (Below.refl _ _).alloc (Nat.le_refl _) _
        have kb0 := cellW bwz c0
        have kb1 := cellW bwz c1
        have kb2 := cellW bwz hc
        have hlt2 : (i : Int) < l.length := by omega
        have hi0 : (0 : Int) ≤ i := by omega
        clear bwz HO FC
        go_region_law
          (go_simp; go_at_call 30; refine (hst.out _).mono ?_; rintro e w2 ⟨rfl, hb1⟩; first | (have hW : Below wr.heap.size wr w2 := ((Below.refl wr.heap.size wr).drew.trans hb1); clear hb1) | (have hW : Below wr.heap.size wr w2 := (((Below.refl _ _).alloc (Nat.le_refl _) _).drew.trans (hb1.mono (by simp))); have z0 : w2.cell? ⟨wr.heap.size, 0, none⟩ = some (.bool false) := (by rw [hb1.cell (by simp)]; simp); have z1 : w2.cell? ⟨wr.heap.size, 1, none⟩ = some (.bool false) := (by rw [hb1.cell (by simp)]; simp); have zf : ∀ k, w2.frozen? ⟨wr.heap.size, k, none⟩ = false := (fun k => by rw [hb1.frozen (by simp)]; simp); clear hb1))
        all_goals first
          | (go_wp2_with fail; go_meet; exact ⟨w2.heap.size, rfl, rfl, rfl, hW.size, Cx.new w2 _ _ _, hW.alloc hW.size _⟩)
          | (go_wp2_with fail; go_meet; exact ⟨wr.heap.size, rfl, rfl, rfl, Nat.le_refl _, Cx.set z0 z1 _ _, (hW.setCell (Nat.le_refl _) _).setCell (Nat.le_refl _) _⟩)
      case rest =>
        obtain ⟨g, rfl, rfl, rfl, hg, HN, hbx⟩ := hcut
        have hz := HZ.out
        have HC1 := Cx.below HC hbx
        have FC1 := Fz.below FC (by omega) hbx
        have HO1 := Lib.hid (HO.out.below hbx)
        have B1 := Lib.hid (BR.out.trans (hbx.mono BR.out.size))
        have hc2 := cellW hbx hc
        have hz1 := hbx.size
        have HO0 := HO
        clear hbx hc HC FC HO BR
        rw [HI.out] at HN ⊢
        rw [HOd.out] at HN
        obtain ⟨wv, hwv⟩ : ∃ v, what y (stO l false i) (stI l false false i) = v := ⟨_, rfl⟩
        have hvals := what_vals y (stO l false i) (stI l false false i)
        rw [hwv] at hvals HK HP HYN ⊢
        rw [← HII.out] at HN
        have HAO := Lib.hid (HO0.out.old hg)
        generalize hiv : inn l i = iv at *
        rw [HII.out] at HN
        generalize hrr : pr l i = rr at *
        have hS := HS.out
        rw [HK.out] at hS
        have HS2 := Lib.hid hS
        clear hwv hrr hS
        obtain ⟨n0, n1⟩ := HN.out
        obtain ⟨c0, c1⟩ := HC1.out
        have fc := FC1.out
        unfold Fz at fc
        have ng1 : ¬ g = w.heap.size := by omega
        have ng2 : ¬ w.heap.size = g := by omega
        have hin : (i : Int) + 1 ≤ 9223372036854775807 := by omega
        have hlt3 : (i : Int) < l.length := by omega
        have key : (wv = 113 ∧ iv = true) ∨ (wv = 113 ∧ iv = false) ∨ wv = 111 ∨ wv = 99 ∨ wv = 58 ∨ wv = 44 ∨ wv = 32 ∨ (wv = 0 ∧ iv = true) ∨ (wv = 0 ∧ iv = false ∧ rr = true) ∨ (wv = 0 ∧ iv = false ∧ rr = false) := by
          rcases hvals with h | h | h | h | h | h | h <;> cases iv <;> cases rr <;> simp [h]
        clear hvals hiv HY HI HOd HK
        have ne0 : ∀ g', ao = some ⟨g', 0, none⟩ → (some ⟨w.heap.size, 0, none⟩ : Option Addr) ≠ some ⟨g', 0, none⟩ := fun g' e1 e2 => HO1.out.ge (Nat.lt_succ_self _) (by rw [e1]; exact e2.symm)
        rcases key with ⟨rfl, rfl⟩ | ⟨rfl, rfl⟩ | rfl | rfl | rfl | rfl | rfl | ⟨rfl, rfl⟩ | ⟨rfl, rfl, rfl⟩ | ⟨rfl, rfl, rfl⟩
        · -- a quote that begins a string
          have HL : Hid (mkL l (i + 1) = mkL l i ++ [(i, 34)]) := Lib.hid (by have := HS2.out; simpa [kdv] using this)
          have HPv : Hid (pr l (i + 1) = false) := Lib.hid (by rw [HP.out]; simp)
          go_wp2_with (refine wp_row _ rfl _ _ 34 rfl (w.heap.size + 1) 37 _ 2 16 Tryd.underlying34 infoMark rfl (by decide) ao c2 (mkL l i).length _ rfl _ rfl (by intro u hu; simp at hu; rcases hu with rfl | rfl <;> rfl) _ rfl HO1.out (by omega) (by unfold maxLen; omega) (by omega) ?_; intro ao4 c4 w5 h1 h2 h3; have H1 := Lib.hid h1; have H2 := Lib.hid (B1.out.trans (h2.mono (Nat.le_succ _))); have HC5 := Cx.belowB HC1 h2 (Nat.lt_succ_self _); have FC5 := Fz.belowB FC1 h2 (Nat.lt_succ_self _); have HN5 := Cx.oth HN h3 HAO.out; have hz5 := h2.size; clear n0 n1 c0 c1 fc h1 h2 h3; obtain ⟨n0, n1⟩ := HN5.out; obtain ⟨c0, c1⟩ := HC5.out; have fc := FC5.out; unfold Fz at fc)
          go_roundw
          case rel =>
            have ne1 : ∀ g', ao4 = some ⟨g', 0, none⟩ → (some ⟨w.heap.size, 0, none⟩ : Option Addr) ≠ some ⟨g', 0, none⟩ := fun g' e1 e2 => H1.out.ge (Nat.lt_succ_self _) (by rw [e1]; exact e2.symm)
            have ho := H1.out
            rw [show mkc (mkL l i) ++ (#[Value.int .i64 (i : Int), .int .u8 (34)] : Array Value).toList = mkc (mkL l (i + 1)) by rw [HL.out, mkc_snoc]; rfl, show (mkL l i).length + 1 = (mkL l (i + 1)).length by rw [HL.out]; simp] at ho
            exact ⟨i + 1, ao4, c4, by omega, by go_num, by rw [HPv.out], by rw [HL.out]; simp, by rw [HII.out]; exact Cx.set c0 c1 _ _, Fz.set (Fz.set FC5 _ _) _ _, Lib.hid ((ho.oth (Oth.setCell _ _ 0 _) ne1).oth (Oth.setCell _ _ 1 _) ne1), Lib.hid ((H2.out.setCell (Nat.le_refl _) _).setCell (Nat.le_refl _) _), Lib.hid (by simp; omega)⟩
          case measure => simp [intOf]; omega
        · -- a quote that ends one
          have HL : Hid (mkL l (i + 1) = mkL l i) := Lib.hid (by have := HS2.out; simpa [kdv] using this)
          have HPv : Hid (pr l (i + 1) = false) := Lib.hid (by rw [HP.out]; simp)
          go_wp2
          go_roundw
          case rel => exact ⟨i + 1, ao, c2, by omega, by go_num, by rw [HPv.out], by rw [HL.out], by rw [HII.out]; exact Cx.set c0 c1 _ _, Fz.set (Fz.set FC1 _ _) _ _, by rw [HL.out]; exact Lib.hid ((HO1.out.oth (Oth.setCell _ _ 0 _) ne0).oth (Oth.setCell _ _ 1 _) ne0), Lib.hid ((B1.out.setCell (Nat.le_refl _) _).setCell (Nat.le_refl _) _), Lib.hid (by simp; omega)⟩
          case measure => simp [intOf]; omega
        · have hy0 := HYN.out (by simp)
          obtain ⟨yv, hyv⟩ : ∃ v : Int, (y : Int) = v := ⟨_, rfl⟩
          have hy1 : (yv != 0) = true := by simp; omega
          have HY1 := Lib.hid hy1
          have HY0 := Lib.hid hy0
          have HYV := Lib.hid hyv
          rw [hyv] at hc2
          clear hy0 hyv hy1
          have HL : Hid (mkL l (i + 1) = mkL l i ++ [(i, y)]) := Lib.hid (by have := HS2.out; simpa [kdv, HY0.out] using this)
          have HPv : Hid (pr l (i + 1) = false) := Lib.hid (by rw [HP.out]; simp)
          go_upto_if 50 with (fail)
          rw [HY1.out]
          go_wp2_with (refine wp_row _ rfl _ _ 34 rfl (w.heap.size + 1) 37 _ 2 16 Tryd.underlying34 infoMark rfl (by decide) ao c2 (mkL l i).length _ rfl _ rfl (by intro u hu; simp at hu; rcases hu with rfl | rfl <;> rfl) _ rfl HO1.out (by omega) (by unfold maxLen; omega) (by omega) ?_; intro ao4 c4 w5 h1 h2 h3; have H1 := Lib.hid h1; have H2 := Lib.hid (B1.out.trans (h2.mono (Nat.le_succ _))); have HC5 := Cx.belowB HC1 h2 (Nat.lt_succ_self _); have FC5 := Fz.belowB FC1 h2 (Nat.lt_succ_self _); have HN5 := Cx.oth HN h3 HAO.out; have hz5 := h2.size; clear n0 n1 c0 c1 fc h1 h2 h3; obtain ⟨n0, n1⟩ := HN5.out; obtain ⟨c0, c1⟩ := HC5.out; have fc := FC5.out; unfold Fz at fc)
          go_roundw
          case rel =>
            have ne1 : ∀ g', ao4 = some ⟨g', 0, none⟩ → (some ⟨w.heap.size, 0, none⟩ : Option Addr) ≠ some ⟨g', 0, none⟩ := fun g' e1 e2 => H1.out.ge (Nat.lt_succ_self _) (by rw [e1]; exact e2.symm)
            have ho := H1.out
            rw [show mkc (mkL l i) ++ (#[Value.int .i64 (i : Int), .int .u8 yv] : Array Value).toList = mkc (mkL l (i + 1)) by rw [HL.out, mkc_snoc, HYV.out], show (mkL l i).length + 1 = (mkL l (i + 1)).length by rw [HL.out]; simp] at ho
            exact ⟨i + 1, ao4, c4, by omega, by go_num, by rw [HPv.out], by rw [HL.out]; simp, by rw [HII.out]; exact Cx.set c0 c1 _ _, Fz.set (Fz.set FC5 _ _) _ _, Lib.hid ((ho.oth (Oth.setCell _ _ 0 _) ne1).oth (Oth.setCell _ _ 1 _) ne1), Lib.hid ((H2.out.setCell (Nat.le_refl _) _).setCell (Nat.le_refl _) _), Lib.hid (by simp; omega)⟩
          case measure => simp [intOf]; omega
        · have hy0 := HYN.out (by simp)
          obtain ⟨yv, hyv⟩ : ∃ v : Int, (y : Int) = v := ⟨_, rfl⟩
          have hy1 : (yv != 0) = true := by simp; omega
          have HY1 := Lib.hid hy1
          have HY0 := Lib.hid hy0
          have HYV := Lib.hid hyv
          rw [hyv] at hc2
          clear hy0 hyv hy1
          have HL : Hid (mkL l (i + 1) = mkL l i ++ [(i, y)]) := Lib.hid (by have := HS2.out; simpa [kdv, HY0.out] using this)
          have HPv : Hid (pr l (i + 1) = false) := Lib.hid (by rw [HP.out]; simp)
          go_upto_if 50 with (fail)
          rw [HY1.out]
          go_wp2_with (refine wp_row _ rfl _ _ 34 rfl (w.heap.size + 1) 37 _ 2 16 Tryd.underlying34 infoMark rfl (by decide) ao c2 (mkL l i).length _ rfl _ rfl (by intro u hu; simp at hu; rcases hu with rfl | rfl <;> rfl) _ rfl HO1.out (by omega) (by unfold maxLen; omega) (by omega) ?_; intro ao4 c4 w5 h1 h2 h3; have H1 := Lib.hid h1; have H2 := Lib.hid (B1.out.trans (h2.mono (Nat.le_succ _))); have HC5 := Cx.belowB HC1 h2 (Nat.lt_succ_self _); have FC5 := Fz.belowB FC1 h2 (Nat.lt_succ_self _); have HN5 := Cx.oth HN h3 HAO.out; have hz5 := h2.size; clear n0 n1 c0 c1 fc h1 h2 h3; obtain ⟨n0, n1⟩ := HN5.out; obtain ⟨c0, c1⟩ := HC5.out; have fc := FC5.out; unfold Fz at fc)
          go_roundw
          case rel =>
            have ne1 : ∀ g', ao4 = some ⟨g', 0, none⟩ → (some ⟨w.heap.size, 0, none⟩ : Option Addr) ≠ some ⟨g', 0, none⟩ := fun g' e1 e2 => H1.out.ge (Nat.lt_succ_self _) (by rw [e1]; exact e2.symm)
            have ho := H1.out
            rw [show mkc (mkL l i) ++ (#[Value.int .i64 (i : Int), .int .u8 yv] : Array Value).toList = mkc (mkL l (i + 1)) by rw [HL.out, mkc_snoc, HYV.out], show (mkL l i).length + 1 = (mkL l (i + 1)).length by rw [HL.out]; simp] at ho
            exact ⟨i + 1, ao4, c4, by omega, by go_num, by rw [HPv.out], by rw [HL.out]; simp, by rw [HII.out]; exact Cx.set c0 c1 _ _, Fz.set (Fz.set FC5 _ _) _ _, Lib.hid ((ho.oth (Oth.setCell _ _ 0 _) ne1).oth (Oth.setCell _ _ 1 _) ne1), Lib.hid ((H2.out.setCell (Nat.le_refl _) _).setCell (Nat.le_refl _) _), Lib.hid (by simp; omega)⟩
          case measure => simp [intOf]; omega
        · have hy0 := HYN.out (by simp)
          obtain ⟨yv, hyv⟩ : ∃ v : Int, (y : Int) = v := ⟨_, rfl⟩
          have hy1 : (yv != 0) = true := by simp; omega
          have HY1 := Lib.hid hy1
          have HY0 := Lib.hid hy0
          have HYV := Lib.hid hyv
          rw [hyv] at hc2
          clear hy0 hyv hy1
          have HL : Hid (mkL l (i + 1) = mkL l i ++ [(i, y)]) := Lib.hid (by have := HS2.out; simpa [kdv, HY0.out] using this)
          have HPv : Hid (pr l (i + 1) = false) := Lib.hid (by rw [HP.out]; simp)
          go_upto_if 50 with (fail)
          rw [HY1.out]
          go_wp2_with (refine wp_row _ rfl _ _ 34 rfl (w.heap.size + 1) 37 _ 2 16 Tryd.underlying34 infoMark rfl (by decide) ao c2 (mkL l i).length _ rfl _ rfl (by intro u hu; simp at hu; rcases hu with rfl | rfl <;> rfl) _ rfl HO1.out (by omega) (by unfold maxLen; omega) (by omega) ?_; intro ao4 c4 w5 h1 h2 h3; have H1 := Lib.hid h1; have H2 := Lib.hid (B1.out.trans (h2.mono (Nat.le_succ _))); have HC5 := Cx.belowB HC1 h2 (Nat.lt_succ_self _); have FC5 := Fz.belowB FC1 h2 (Nat.lt_succ_self _); have HN5 := Cx.oth HN h3 HAO.out; have hz5 := h2.size; clear n0 n1 c0 c1 fc h1 h2 h3; obtain ⟨n0, n1⟩ := HN5.out; obtain ⟨c0, c1⟩ := HC5.out; have fc := FC5.out; unfold Fz at fc)
          go_roundw
          case rel =>
            have ne1 : ∀ g', ao4 = some ⟨g', 0, none⟩ → (some ⟨w.heap.size, 0, none⟩ : Option Addr) ≠ some ⟨g', 0, none⟩ := fun g' e1 e2 => H1.out.ge (Nat.lt_succ_self _) (by rw [e1]; exact e2.symm)
            have ho := H1.out
            rw [show mkc (mkL l i) ++ (#[Value.int .i64 (i : Int), .int .u8 yv] : Array Value).toList = mkc (mkL l (i + 1)) by rw [HL.out, mkc_snoc, HYV.out], show (mkL l i).length + 1 = (mkL l (i + 1)).length by rw [HL.out]; simp] at ho
            exact ⟨i + 1, ao4, c4, by omega, by go_num, by rw [HPv.out], by rw [HL.out]; simp, by rw [HII.out]; exact Cx.set c0 c1 _ _, Fz.set (Fz.set FC5 _ _) _ _, Lib.hid ((ho.oth (Oth.setCell _ _ 0 _) ne1).oth (Oth.setCell _ _ 1 _) ne1), Lib.hid ((H2.out.setCell (Nat.le_refl _) _).setCell (Nat.le_refl _) _), Lib.hid (by simp; omega)⟩
          case measure => simp [intOf]; omega
        · have hy0 := HYN.out (by simp)
          obtain ⟨yv, hyv⟩ : ∃ v : Int, (y : Int) = v := ⟨_, rfl⟩
          have hy1 : (yv != 0) = true := by simp; omega
          have HY1 := Lib.hid hy1
          have HY0 := Lib.hid hy0
          have HYV := Lib.hid hyv
          rw [hyv] at hc2
          clear hy0 hyv hy1
          have HL : Hid (mkL l (i + 1) = mkL l i ++ [(i, y)]) := Lib.hid (by have := HS2.out; simpa [kdv, HY0.out] using this)
          have HPv : Hid (pr l (i + 1) = false) := Lib.hid (by rw [HP.out]; simp)
          go_upto_if 50 with (fail)
          rw [HY1.out]
          go_wp2_with (refine wp_row _ rfl _ _ 34 rfl (w.heap.size + 1) 37 _ 2 16 Tryd.underlying34 infoMark rfl (by decide) ao c2 (mkL l i).length _ rfl _ rfl (by intro u hu; simp at hu; rcases hu with rfl | rfl <;> rfl) _ rfl HO1.out (by omega) (by unfold maxLen; omega) (by omega) ?_; intro ao4 c4 w5 h1 h2 h3; have H1 := Lib.hid h1; have H2 := Lib.hid (B1.out.trans (h2.mono (Nat.le_succ _))); have HC5 := Cx.belowB HC1 h2 (Nat.lt_succ_self _); have FC5 := Fz.belowB FC1 h2 (Nat.lt_succ_self _); have HN5 := Cx.oth HN h3 HAO.out; have hz5 := h2.size; clear n0 n1 c0 c1 fc h1 h2 h3; obtain ⟨n0, n1⟩ := HN5.out; obtain ⟨c0, c1⟩ := HC5.out; have fc := FC5.out; unfold Fz at fc)
          go_roundw
          case rel =>
            have ne1 : ∀ g', ao4 = some ⟨g', 0, none⟩ → (some ⟨w.heap.size, 0, none⟩ : Option Addr) ≠ some ⟨g', 0, none⟩ := fun g' e1 e2 => H1.out.ge (Nat.lt_succ_self _) (by rw [e1]; exact e2.symm)
            have ho := H1.out
            rw [show mkc (mkL l i) ++ (#[Value.int .i64 (i : Int), .int .u8 yv] : Array Value).toList = mkc (mkL l (i + 1)) by rw [HL.out, mkc_snoc, HYV.out], show (mkL l i).length + 1 = (mkL l (i + 1)).length by rw [HL.out]; simp] at ho
            exact ⟨i + 1, ao4, c4, by omega, by go_num, by rw [HPv.out], by rw [HL.out]; simp, by rw [HII.out]; exact Cx.set c0 c1 _ _, Fz.set (Fz.set FC5 _ _) _ _, Lib.hid ((ho.oth (Oth.setCell _ _ 0 _) ne1).oth (Oth.setCell _ _ 1 _) ne1), Lib.hid ((H2.out.setCell (Nat.le_refl _) _).setCell (Nat.le_refl _) _), Lib.hid (by simp; omega)⟩
          case measure => simp [intOf]; omega
        · -- a blank
          have HL : Hid (mkL l (i + 1) = mkL l i) := Lib.hid (by have := HS2.out; simpa [kdv] using this)
          have HPv : Hid (pr l (i + 1) = false) := Lib.hid (by rw [HP.out]; simp)
          go_wp2
          go_roundw
          case rel => exact ⟨i + 1, ao, c2, by omega, by go_num, by rw [HPv.out], by rw [HL.out], by rw [HII.out]; exact Cx.set c0 c1 _ _, Fz.set (Fz.set FC1 _ _) _ _, by rw [HL.out]; exact Lib.hid ((HO1.out.oth (Oth.setCell _ _ 0 _) ne0).oth (Oth.setCell _ _ 1 _) ne0), Lib.hid ((B1.out.setCell (Nat.le_refl _) _).setCell (Nat.le_refl _) _), Lib.hid (by simp; omega)⟩
          case measure => simp [intOf]; omega
        · -- within a string
          have HL : Hid (mkL l (i + 1) = mkL l i) := Lib.hid (by have := HS2.out; simpa [kdv] using this)
          have HPv : Hid (pr l (i + 1) = false) := Lib.hid (by rw [HP.out]; simp)
          go_wp2
          go_roundw
          case rel => exact ⟨i + 1, ao, c2, by omega, by go_num, by rw [HPv.out], by rw [HL.out], by rw [HII.out]; exact Cx.set c0 c1 _ _, Fz.set (Fz.set FC1 _ _) _ _, by rw [HL.out]; exact Lib.hid ((HO1.out.oth (Oth.setCell _ _ 0 _) ne0).oth (Oth.setCell _ _ 1 _) ne0), Lib.hid ((B1.out.setCell (Nat.le_refl _) _).setCell (Nat.le_refl _) _), Lib.hid (by simp; omega)⟩
          case measure => simp [intOf]; omega
        · -- within a run
          have HL : Hid (mkL l (i + 1) = mkL l i) := Lib.hid (by have := HS2.out; simpa [kdv] using this)
          have HPv : Hid (pr l (i + 1) = true) := Lib.hid (by rw [HP.out]; simp)
          go_wp2
          go_roundw
          case rel => exact ⟨i + 1, ao, c2, by omega, by go_num, by rw [HPv.out], by rw [HL.out], by rw [HII.out]; exact Cx.set c0 c1 _ _, Fz.set (Fz.set FC1 _ _) _ _, by rw [HL.out]; exact Lib.hid ((HO1.out.oth (Oth.setCell _ _ 0 _) ne0).oth (Oth.setCell _ _ 1 _) ne0), Lib.hid ((B1.out.setCell (Nat.le_refl _) _).setCell (Nat.le_refl _) _), Lib.hid (by simp; omega)⟩
          case measure => simp [intOf]; omega
        · -- a run begins
          have HL : Hid (mkL l (i + 1) = mkL l i ++ [(i, 48)]) := Lib.hid (by have := HS2.out; simpa [kdv] using this)
          have HPv : Hid (pr l (i + 1) = true) := Lib.hid (by rw [HP.out]; simp)
          go_wp2_with (refine wp_row _ rfl _ _ 34 rfl (w.heap.size + 1) 37 _ 2 16 Tryd.underlying34 infoMark rfl (by decide) ao c2 (mkL l i).length _ rfl _ rfl (by intro u hu; simp at hu; rcases hu with rfl | rfl <;> rfl) _ rfl HO1.out (by omega) (by unfold maxLen; omega) (by omega) ?_; intro ao4 c4 w5 h1 h2 h3; have H1 := Lib.hid h1; have H2 := Lib.hid (B1.out.trans (h2.mono (Nat.le_succ _))); have HC5 := Cx.belowB HC1 h2 (Nat.lt_succ_self _); have FC5 := Fz.belowB FC1 h2 (Nat.lt_succ_self _); have HN5 := Cx.oth HN h3 HAO.out; have hz5 := h2.size; clear n0 n1 c0 c1 fc h1 h2 h3; obtain ⟨n0, n1⟩ := HN5.out; obtain ⟨c0, c1⟩ := HC5.out; have fc := FC5.out; unfold Fz at fc)
          go_roundw
          case rel =>
            have ne1 : ∀ g', ao4 = some ⟨g', 0, none⟩ → (some ⟨w.heap.size, 0, none⟩ : Option Addr) ≠ some ⟨g', 0, none⟩ := fun g' e1 e2 => H1.out.ge (Nat.lt_succ_self _) (by rw [e1]; exact e2.symm)
            have ho := H1.out
            rw [show mkc (mkL l i) ++ (#[Value.int .i64 (i : Int), .int .u8 (48)] : Array Value).toList = mkc (mkL l (i + 1)) by rw [HL.out, mkc_snoc]; rfl, show (mkL l i).length + 1 = (mkL l (i + 1)).length by rw [HL.out]; simp] at ho
            exact ⟨i + 1, ao4, c4, by omega, by go_num, by rw [HPv.out], by rw [HL.out]; simp, by rw [HII.out]; exact Cx.set c0 c1 _ _, Fz.set (Fz.set FC5 _ _) _ _, Lib.hid ((ho.oth (Oth.setCell _ _ 0 _) ne1).oth (Oth.setCell _ _ 1 _) ne1), Lib.hid ((H2.out.setCell (Nat.le_refl _) _).setCell (Nat.le_refl _) _), Lib.hid (by simp; omega)⟩
          case measure => simp [intOf]; omega
    · have HE : Hid (i = l.length) := Lib.hid (by omega)
      rw [HE.out] at HO ⊢
      go_wp2
      go_ret
      exact ⟨ao, c2, rfl, HO.out.mono (Nat.le_succ _), BR.out⟩
end Go.Proofs.YtibgejndlllhfaaDoor
