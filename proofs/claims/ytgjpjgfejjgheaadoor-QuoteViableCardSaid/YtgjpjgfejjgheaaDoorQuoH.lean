/- quote: written walked. -/
import Derived.Test.YtgjpjgfejjgheaaDoorQuoG
import Derived.Test.YtgjpjgfejjgheaaDoorUtfH
import Derived.Test.YtgjpjgfejjgheaaDoorUtfR2
namespace Go.Proofs.YtgjpjgfejjgheaaDoor
open Go.RowKit UM QM

def wrt (asc : Bool) (ps : List Nat) : List Nat := [34] ++ ps.flatMap (pieceW asc) ++ [34]
theorem pieceW_len (asc : Bool) (p : Nat) : (pieceW asc p).length ≤ 12 := by
  have h := (en_pos p).2
  unfold pieceW
  repeat' split
  all_goals simp [uni, hx4]
  rw [enc_len]; omega
theorem flat_len (asc : Bool) : ∀ l : List Nat, (l.flatMap (pieceW asc)).length ≤ 12 * l.length
  | [] => by simp
  | p :: l => by
    have h1 := flat_len asc l
    have h2 := pieceW_len asc p
    rw [List.flatMap_cons, List.length_append, List.length_cons]; omega
theorem L2 {asc : Bool} {ps done todo L : List Nat} {n : Nat} (h : ps = done ++ todo) (hL : L = [34] ++ done.flatMap (pieceW asc)) (hx : ps.length ≤ n) (hn : n ≤ 1000000000000) : L.length ≤ 20000000000000 := by
  have := flat_len asc done
  rw [h, List.length_append] at hx
  rw [hL, List.length_append, List.length_singleton]; omega
theorem hxd_lo (d : Nat) (h : d < 16) : hxd d < 256 := by unfold hxd; split <;> omega
theorem uni_lo (u : Nat) : ∀ x ∈ uni u, x < 256 := by
  intro x hx
  simp only [uni, hx4, List.cons_append, List.nil_append, List.mem_cons, List.not_mem_nil, or_false] at hx
  rcases hx with rfl | rfl | rfl | rfl | rfl | rfl
  · decide
  · decide
  all_goals exact hxd_lo _ (Nat.mod_lt _ (by decide))
theorem letF_lo (p : Nat) : letF p < 256 := by
  unfold letF
  repeat' split
  all_goals decide
theorem pieceW_lo {asc : Bool} {p : Nat} (hp : Pt p) : ∀ x ∈ pieceW asc p, x < 256 := by
  intro x hx
  unfold pieceW at hx
  have h1 := letF_lo p
  by_cases c1 : letF p ≠ 0
  · rw [if_pos c1] at hx; simp at hx; omega
  rw [if_neg c1] at hx
  by_cases c2 : p < 32 ∨ p = 127
  · rw [if_pos c2] at hx; exact uni_lo _ x hx
  rw [if_neg c2] at hx
  by_cases c3 : p ≤ 127 ∨ asc = false
  · rw [if_pos c3] at hx; exact enc_lo hp.1 x hx
  rw [if_neg c3] at hx
  by_cases c4 : p ≤ 65535
  · rw [if_pos c4] at hx; exact uni_lo _ x hx
  rw [if_neg c4, List.mem_append] at hx
  rcases hx with hx | hx <;> exact uni_lo _ x hx
theorem L3 {asc : Bool} {ps done todo L : List Nat} (h : ps = done ++ todo) (hL : L = [34] ++ done.flatMap (pieceW asc)) (hp : ∀ p ∈ ps, Pt p) : ∀ x ∈ L ++ [34], x < 256 := by
  intro x hx
  rw [hL] at hx
  simp only [List.mem_append, List.mem_singleton, List.mem_flatMap] at hx
  rcases hx with (rfl | ⟨q, hq, hx⟩) | rfl
  · decide
  · exact pieceW_lo (hp q (by rw [h]; exact List.mem_append_left _ hq)) x hx
  · decide
def strLen : Value → Nat
  | .string t => t.size
  | _ => 0
set_option maxRecDepth 100000 in
set_option maxHeartbeats 2000000 in
theorem written_any (asc : Bool) (s : ByteArray) (w : World) (hs : s.size ≤ 1000000000000) (ht : Sh w) :
    Calls Tryd.prog 16 #[.string s, .bool asc] w (ResT (wrt asc (xp (bl s))) w) := by
  have HT := Lib.hid ht
  clear ht
  go_enter Tryd.func16, Tryd.ntmps16
  have hC := Clean_any s (w.alloc (.cells #[Value.int .u8 34] 5)) (by omega) (HT.out.below ((Below.refl w.heap.size w).alloc (Nat.le_refl _) _))
  have HC := Lib.hid hC
  clear hC
  have O0 : Own (w.alloc (.cells #[Value.int .u8 34] 5)) w.heap.size 5 .u8 (some ⟨w.heap.size, 0, none⟩) 1 [34] := World.ownsRow_lit w #[Value.int .u8 34] 1 (Nat.le_refl _) (by decide) rfl
  have B0 : Below w.heap.size w (w.alloc (.cells #[Value.int .u8 34] 5)) := (Below.refl _ _).alloc (Nat.le_refl _) _
  go_wp2_with fail
  refine HC.out.mono ?_
  rintro r w1 ⟨rfl, hb1⟩
  have O1 := Lib.hid (O0.below hb1)
  have B1 := Lib.hid (B0.trans (hb1.mono (by simp)))
  clear O0 B0 hb1 HC
  have hxl : (xp (bl s)).length ≤ s.size := by rw [← bl_len s]; exact xp_le _
  have hpts := Lib.hid (xp_pts (bl s))
  generalize xp (bl s) = ps at *
  go_wp2
  go_loopw [5, 6] (fun v5 v6 wr => ∃ (done todo L : List Nat) (ao : Option Addr) (cap : Nat), v5 = .slice ao L.length cap ∧ v6 = .string (tx (encL todo)) ∧ Hid (ps = done ++ todo) ∧ Hid (L = [34] ++ done.flatMap (pieceW asc)) ∧ Hid (Own wr w.heap.size 5 .u8 ao cap L) ∧ Hid (Below w.heap.size w wr)) (fun _ v6 _ => strLen v6)
  case atStart => exact ⟨[], ps, [34], _, _, rfl, rfl, Lib.hid rfl, Lib.hid rfl, O1, B1⟩
  case round =>
    obtain ⟨done, todo, L, ao, cap, rfl, rfl, HS, HL, HO, HB⟩ := hrel
    rcases todo with _ | ⟨p, t⟩
    · rw [encL_nil, tx_nil]
      have hps := HS.out
      rw [List.append_nil] at hps
      have HE : Hid (L ++ [34] = wrt asc ps) := Lib.hid (by rw [HL.out, hps]; rfl)
      have hlen := L2 HS.out HL.out hxl hs
      go_wp2_with (refine wp_apps (k := .u8) wr rfl _ _ 26 rfl w.heap.size 5 1 Tryd.underlying26 infoU8 ao cap _ L rfl rfl [34] (by simp) _ rfl _ _ rfl rfl HO.out (by simp; omega) (by unfold maxLen; simp; omega) HB.out.size ?_; intro ao' cap' w' h1 h2 h3; have H1 := Lib.hid h1; have H2 := Lib.hid (HB.out.trans h2); have hcv := conv_tx (P := Tryd.prog) w' 26 9 5 _ cap' ao' (L ++ [34]) (L.length + 1) Tryd.underlying26 Tryd.underlying5 Tryd.underlying9 H1.out (L3 HS.out HL.out hpts.out) (by simp); clear h1 h2 h3)
      go_ret
      exact ⟨by rw [← HE.out]; rfl, H2.out⟩
    · have hpt : Pt p := hpts.out p (by rw [HS.out]; simp)
      have hbl : bl (tx (encL (p :: t))) = enc p ++ encL t := by
        rw [bl_tx, encL_cons]
        exact encL_lo fun q hq => hpts.out q (by rw [HS.out]; exact List.mem_append_right _ hq)
      have hlo : ∀ x ∈ encL t, x < 256 := encL_lo fun q hq => hpts.out q (by rw [HS.out]; exact List.mem_append_right _ (List.mem_cons_of_mem _ hq))
      have hsz : (tx (encL (p :: t))).size = en p + (encL t).length := by rw [← bl_len, hbl, List.length_append, enc_len]
      generalize tx (encL (p :: t)) = R at *
      have hep := en_pos p
      have hx1 : R.extract 0 (en p) = tx (enc p) := bl_inj (by rw [bl_take, hbl, bl_tx (enc_lo hpt.1), ← enc_len]; simp)
      have hx2 : R.extract (en p) R.size = tx (encL t) := bl_inj (by rw [bl_extract, hbl, bl_tx hlo, ← enc_len]; simp)
      have hlen := L2 HS.out HL.out hxl hs
      have hD := Decode_any R wr (by have := hxl; have := encL_len t; have : t.length ≤ ps.length := (by rw [HS.out]; simp; omega); omega) (HT.out.below HB.out)
      unfold ResDec at hD
      rw [hbl, dcd_enc hpt] at hD
      have HD := Lib.hid hD
      have hP := fun (n : Nat) => putPiece_any asc p w.heap.size ao cap L (wr.drewN n) hpt HB.out.size (by omega) (HO.out.dN n)
      have HP := Lib.hid hP
      have hR3 : R.toList.isEmpty = false := by
        rcases h : R.toList.isEmpty with _ | _
        · rfl
        · rw [List.isEmpty_iff, ByteArray.toList_eq] at h
          have : R.size = 0 := by rw [← bl_len]; unfold bl; rw [h]; rfl
          omega
      have HX1 := Lib.hid hx1; have HX2 := Lib.hid hx2; have HSZ := Lib.hid hsz
      have hR1 : (en p : Int) ≤ (R.size : Int) := by omega
      have hR2 : en p ≤ R.size := by omega
      clear hx1 hx2 hsz hbl hD hP hlo hpt
      go_wp2_with fail
      refine HD.out.mono ?_
      rintro r w2 ⟨rfl, n2, rfl⟩
      simp only
      go_wp2_with fail
      rw [HX1.out]
      refine (HP.out n2).mono ?_
      rintro r w3 ⟨a3, c3, rfl, R1, R2, _⟩
      have A1 := Lib.hid R1; have A2 := Lib.hid ((bdN HB.out n2).trans R2)
      clear R1 R2
      go_wp2
      go_roundw
      case rel => exact ⟨done ++ [p], t, _, a3, c3, by simp, by rw [HX2.out], Lib.hid (by rw [HS.out]; simp), Lib.hid (by rw [HL.out]; simp), A1, A2⟩
      case measure => rw [HX2.out]; simp only [strLen]; rw [tx_size, HSZ.out]; omega
theorem Quote_any (s : ByteArray) (w : World) (hs : s.size ≤ 1000000000000) (ht : Sh w) :
    Calls Tryd.prog 8 #[.string s] w (ResT (wrt false (xp (bl s))) w) := by
  have H := Lib.hid (written_any false s w hs ht)
  go_enter Tryd.func8, Tryd.ntmps8
  go_wp2_with fail
  refine H.out.mono ?_
  rintro r w1 ⟨rfl, hb⟩
  go_wp2
  go_ret
  exact ⟨rfl, hb⟩
theorem Ascii_any (s : ByteArray) (w : World) (hs : s.size ≤ 1000000000000) (ht : Sh w) :
    Calls Tryd.prog 10 #[.string s] w (ResT (wrt true (xp (bl s))) w) := by
  have H := Lib.hid (written_any true s w hs ht)
  go_enter Tryd.func10, Tryd.ntmps10
  go_wp2_with fail
  refine H.out.mono ?_
  rintro r w1 ⟨rfl, hb⟩
  go_wp2
  go_ret
  exact ⟨rfl, hb⟩
end Go.Proofs.YtgjpjgfejjgheaaDoor
