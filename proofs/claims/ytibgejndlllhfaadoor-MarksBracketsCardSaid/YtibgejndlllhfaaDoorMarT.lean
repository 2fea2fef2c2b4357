/- The document's Brackets, Pack, walked. -/
import Derived.Test.YtibgejndlllhfaaDoorMarL
namespace Go.Proofs.YtibgejndlllhfaaDoor
open Go.RowKit BM

theorem Has_at {iv : Int} (x : BitVec 64) (i : Nat) (b : Bool) (hb : bitAt x i = b) (hv : iv = (i : Int)) (hi : i < 64) (w : World) :
    Calls Tryd.prog 32 #[.int .u64 (val x), .int .i64 iv] w fun e w' => e = .returned (.bool b) ∧ w = w' := by
  subst hb hv; exact Has_any x i hi w
theorem infoBool : (Tryd.prog.info? 4).map (fun i => (i.zero, i.size, i.bytes)) = some (some (.bool false), 1, 1) := by kernel_rfl
def bcs (L : List Bool) : List Value := L.map Value.bool
theorem bcs_snoc (L : List Bool) (b : Bool) : bcs (L ++ [b]) = bcs L ++ [.bool b] := by simp [bcs]
theorem bcs_get {L : List Bool} {j : Nat} {b : Bool} (h : L[j]? = some b) : (bcs L)[j]? = some (.bool b) := by simp [bcs, h]
def ResBo (L : List Bool) (w : World) (e : Ending) (w' : World) : Prop :=
  ∃ a c, e = .returned (.slice a L.length c) ∧ OwnV w' w.heap.size 4 1 a L.length c (bcs L) ∧ Below w.heap.size w w'
set_option maxRecDepth 100000 in
set_option maxHeartbeats 2000000 in
theorem BracketsR_any (a : Option Addr) (cap : Nat) (xs : List MS) (len : Int) (w : World) (hr : RdM w a xs) (hn : xs.length ≤ 2600000000000) :
    Calls Tryd.prog 21 #[.agg #[.slice a xs.length cap, .int .i64 len]] w (ResBo (brs xs) w) := by
  have HR := Lib.hid hr
  clear hr
  go_enter Tryd.func21, Tryd.ntmps21
  go_wp2_with fail
  have I0 := Ix.mk w a xs.length cap len 27 (0, 0)
  have B0 := Lib.hid ((Below.refl w.heap.size w).alloc (Nat.le_refl _) (.cells #[.slice a xs.length cap, .int .i64 len] 27))
  have hs0 : (w.alloc (.cells #[.slice a xs.length cap, .int .i64 len] 27)).heap.size = w.heap.size + 1 := by simp
  generalize w.alloc (.cells #[.slice a xs.length cap, .int .i64 len] 27) = w0 at *
  have HS0 := Lib.hid hs0
  clear hs0
  go_loopw [3, 4] (fun s3 s4 wr => ∃ (k : Nat) (ao : Option Addr) (cp : Nat), k ≤ xs.length ∧ s4 = .int .i64 k ∧ s3 = .slice ao (brs (xs.take k)).length cp ∧ Hid (OwnV wr (w.heap.size + 1) 4 1 ao (brs (xs.take k)).length cp (bcs (brs (xs.take k)))) ∧ Hid (Below w.heap.size w wr) ∧ Hid (Ix wr w.heap.size a xs.length cap len) ∧ Hid (w.heap.size + 1 ≤ wr.heap.size)) (fun _ s4 _ => xs.length - (intOf s4).toNat)
  case atStart => exact ⟨0, none, 0, by omega, rfl, rfl, Lib.hid (OwnV.nil _ _ _ _), B0, I0, Lib.hid (by rw [HS0.out]; omega)⟩
  case round =>
    obtain ⟨k, ao, cp, hk, rfl, rfl, HO, BR, IR, HZ⟩ := hrel
    by_cases hlt : k < xs.length
    · obtain ⟨x, hx⟩ : ∃ x, xs[k]? = some x := ⟨_, List.getElem?_eq_getElem hlt⟩
      have hpl : (brs (xs.take k)).length ≤ 64 * k := by have := brs_length (xs.take k); simp at this; omega
      have HPE : Hid (brs (xs.take (k + 1)) = brs (xs.take k) ++ bw x 64) := Lib.hid (by rw [take_snoc hx, brs_snoc])
      have HX := Lib.hid hx
      have HP0 : Hid (brs (xs.take k) = brs (xs.take k) ++ bw x 0) := Lib.hid (by simp [bw, pick_zero])
      clear hx
      generalize brs (xs.take k) = L0 at *
      obtain ⟨x0, x1⟩ := IR.out
      go_wp2_with fail
      clear x0 x1
      go_loopw [3, 5] (fun s3 s5 wq => ∃ (j : Nat) (ao : Option Addr) (cp : Nat), j ≤ 64 ∧ s5 = .int .i64 j ∧ s3 = .slice ao (L0 ++ bw x j).length cp ∧ Hid (OwnV wq (w.heap.size + 1) 4 1 ao (L0 ++ bw x j).length cp (bcs (L0 ++ bw x j))) ∧ Hid (Below w.heap.size w wq) ∧ Hid (Ix wq w.heap.size a xs.length cap len) ∧ Hid (w.heap.size + 1 ≤ wq.heap.size)) (fun _ s5 _ => 64 - (intOf s5).toNat)
      case atStart => exact ⟨0, ao, cp, by omega, rfl, by rw [← HP0.out], by rw [← HP0.out]; exact HO, BR, IR, HZ⟩
      case round =>
        obtain ⟨j, ao2, cp2, hj, rfl, rfl, HO2, BR2, IR2, HZ2⟩ := hrel
        obtain ⟨x0, x1⟩ := IR2.out
        by_cases hj64 : j < 64
        · have hbl : (bw x j).length ≤ j := pick_length _ _ _
          obtain ⟨b, off, rfl, ⟨m0, m1, m2, m3, m4, m5, m6⟩⟩ := (HR.out.below BR2.out) k x HX.out
          obtain ⟨b0, h0⟩ : ∃ b, bitAt x.o j = b := ⟨_, rfl⟩
          obtain ⟨b1, h1⟩ : ∃ b, bitAt x.c j = b := ⟨_, rfl⟩
          have HN : Hid (L0 ++ bw x (j + 1) = (L0 ++ bw x j) ++ (if (b0 || b1) then [b0] else [])) := Lib.hid (by
            unfold bw
            rw [pick_succ, List.append_assoc, ← h0, ← h1]
            unfold MS.br bitAt
            rw [BitVec.getLsbD_or])
          have HH0 := Lib.hid (fun w => Has_at x.o j b0 h0 rfl hj64 w)
          have HH1 := Lib.hid (fun w => Has_at x.c j b1 h1 rfl hj64 w)
          have hL : (L0 ++ bw x j).length ≤ 166400000000064 := by rw [List.length_append]; omega
          clear h0 h1 hbl
          generalize L0 ++ bw x j = L at *
          have hz2 := HZ2.out
          have key : b0 = true ∨ (b0 = false ∧ b1 = true) ∨ (b0 = false ∧ b1 = false) := by cases b0 <;> cases b1 <;> simp
          rcases key with rfl | ⟨rfl, rfl⟩ | ⟨rfl, rfl⟩
          · go_wp2_with (first | ((with_reducible refine (HH0.out _).mono ?_); rintro e w' ⟨rfl, rfl⟩) | ((with_reducible refine (HH1.out _).mono ?_); rintro e w' ⟨rfl, rfl⟩) | (refine wp_row _ rfl _ _ 43 rfl (w.heap.size + 1) 4 _ 1 1 Tryd.underlying43 infoBool rfl (by decide) ao2 cp2 L.length _ rfl _ rfl (by intro u hu; simp at hu; subst hu; rfl) _ rfl HO2.out (by omega) (by unfold maxLen; omega) hz2 ?_; intro ao3 cp3 w3 g1 g2 g3; have G1 := Lib.hid g1; have G2 := Lib.hid (BR2.out.trans (g2.mono (Nat.le_succ _))); have G3 := Lib.hid (⟨by rw [g2.cell (Nat.lt_succ_self _)]; exact IR2.out.1, by rw [g2.cell (Nat.lt_succ_self _)]; exact IR2.out.2⟩ : Ix w3 w.heap.size _ xs.length cap len); have G4 := Lib.hid (Nat.le_trans hz2 g2.size); clear g1 g2 g3))
            go_roundw
            case rel => exact ⟨j + 1, ao3, cp3, by omega, by go_num, by rw [HN.out]; simp, by rw [HN.out]; simp only [Bool.true_or, if_true, List.length_append, List.length_singleton, bcs_snoc]; exact G1, G2, G3, G4⟩
            case measure => simp [intOf]; omega
          · go_wp2_with (first | ((with_reducible refine (HH0.out _).mono ?_); rintro e w' ⟨rfl, rfl⟩) | ((with_reducible refine (HH1.out _).mono ?_); rintro e w' ⟨rfl, rfl⟩) | (refine wp_row _ rfl _ _ 43 rfl (w.heap.size + 1) 4 _ 1 1 Tryd.underlying43 infoBool rfl (by decide) ao2 cp2 L.length _ rfl _ rfl (by intro u hu; simp at hu; subst hu; rfl) _ rfl HO2.out (by omega) (by unfold maxLen; omega) hz2 ?_; intro ao3 cp3 w3 g1 g2 g3; have G1 := Lib.hid g1; have G2 := Lib.hid (BR2.out.trans (g2.mono (Nat.le_succ _))); have G3 := Lib.hid (⟨by rw [g2.cell (Nat.lt_succ_self _)]; exact IR2.out.1, by rw [g2.cell (Nat.lt_succ_self _)]; exact IR2.out.2⟩ : Ix w3 w.heap.size _ xs.length cap len); have G4 := Lib.hid (Nat.le_trans hz2 g2.size); clear g1 g2 g3))
            go_roundw
            case rel => exact ⟨j + 1, ao3, cp3, by omega, by go_num, by rw [HN.out]; simp, by rw [HN.out]; simp only [Bool.or_true, if_true, List.length_append, List.length_singleton, bcs_snoc]; exact G1, G2, G3, G4⟩
            case measure => simp [intOf]; omega
          · go_wp2_with (first | ((with_reducible refine (HH0.out _).mono ?_); rintro e w' ⟨rfl, rfl⟩) | ((with_reducible refine (HH1.out _).mono ?_); rintro e w' ⟨rfl, rfl⟩))
            go_roundw
            case rel => exact ⟨j + 1, ao2, cp2, by omega, by go_num, by rw [HN.out]; simp, by rw [HN.out]; simpa using HO2, BR2, IR2, HZ2⟩
            case measure => simp [intOf]; omega
        · have HE : Hid (j = 64) := Lib.hid (by omega)
          rw [HE.out] at HO2 ⊢
          have hkn : (k : Int) + 1 ≤ 9223372036854775807 := by omega
          go_wp2
          go_roundw
          case rel => exact ⟨k + 1, ao2, cp2, by omega, by go_num, by rw [HPE.out], by rw [HPE.out]; exact HO2, BR2, IR2, HZ2⟩
          case measure => simp [intOf]; omega
    · have HE : Hid (xs.take k = xs) := Lib.hid (List.take_of_length_le (by omega))
      rw [HE.out] at HO ⊢
      obtain ⟨x0, x1⟩ := IR.out
      go_wp2
      go_ret
      exact ⟨ao, cp, rfl, HO.out.mono (Nat.le_succ _), BR.out⟩
end Go.Proofs.YtibgejndlllhfaaDoor
