/- The law MarksWords walked. -/
import Derived.Test.YtibgejndlllhfaaDoorMarL
namespace Go.Proofs.YtibgejndlllhfaaDoor
open Go.RowKit BM

theorem bw_le (l : List Nat) (k : Nat) : (bw (wd l k) 64).length ≤ l.length - 64 * k := by
  by_cases h : 64 ≤ l.length - 64 * k
  · exact Nat.le_trans (pick_length _ _ 64) h
  · have e : bw (wd l k) 64 = bw (wd l k) (l.length - 64 * k) := pick_none (by omega) fun i h1 h2 => by
      unfold MS.br
      rw [BitVec.getLsbD_or, wd_o l k h2, wd_c l k h2]
      simp [show ¬ 64 * k + i < l.length by omega]
    rw [e]
    exact pick_length _ _ _
theorem brs_le (l : List Nat) : ∀ n, 64 * n ≤ l.length + 63 → (brs (wds l n)).length ≤ 64 * n ∧ (brs (wds l n)).length ≤ l.length
  | 0, _ => by simp [wds, brs]
  | n + 1, h => by
    have h1 := brs_le l n (by omega)
    have h2 := bw_le l n
    have h3 : (bw (wd l n) 64).length ≤ 64 := pick_length _ _ 64
    have h4 : (brs (wds l n)).length ≤ 64 * n := h1.1
    rw [wds_succ, brs_snoc, List.length_append]
    omega
def MS.all (x : MS) : BitVec 64 := x.q ||| x.n ||| x.o ||| x.c ||| x.k ||| x.m ||| x.s
theorem last_zero (l : List Nat) (k : Nat) (h : k * 64 + l.length % 64 = l.length) : sr (wd l k).all (l.length % 64) = 0#64 := by
  apply BM.ext
  intro i hi
  unfold sr MS.all
  rw [BitVec.getLsbD_ushiftRight]
  by_cases c : l.length % 64 + i < 64
  · have e : ¬ 64 * k + (l.length % 64 + i) < l.length := by omega
    simp only [BitVec.getLsbD_or, wd_q l k c, wd_n l k c, wd_o l k c, wd_c l k c, wd_k l k c, wd_m l k c, wd_s l k c, e, decide_false, Bool.false_and, Bool.or_false, BitVec.getLsbD_zero]
  · rw [BitVec.getLsbD_of_ge _ _ (by omega)]; simp
set_option maxRecDepth 100000 in
set_option maxHeartbeats 2000000 in
theorem MarksWords_any (a : Option Addr) (cap : Nat) (l : List Nat) (w : World) (hT : Tb w) (hl : l.length ≤ 140737488351232) (hcap : l.length ≤ cap) (hr : Rd w .u8 a l) :
    Calls Tryd.prog 8 #[.slice a l.length cap] w fun e w' => e = .returned (.bool true) ∧ Below w.heap.size w w' := by
  have HT := Lib.hid hT
  have HR := Lib.hid hr
  clear hT hr
  go_enter Tryd.func8, Tryd.ntmps8
  go_wp2_with fail
  refine (shown_any _ HT.out).mono ?_
  rintro r w1 ⟨rfl, hb⟩
  have B1 := Lib.hid hb
  clear hb
  go_wp2_with fail
  refine (Build_any a cap l _ (by omega) hcap (HR.out.below B1.out)).mono ?_
  rintro r w2 ⟨a2, c2, rfl, ho, hb⟩
  have B2 := Lib.hid (B1.out.trans (hb.mono B1.out.size))
  have R2 := Lib.hid ho.rdM
  clear ho hb
  go_wp2_with fail
  have bz := (Below.refl w2.heap.size w2).alloc (Nat.le_refl _) (.cells #[.slice a2 (nw l.length) c2, .int .i64 l.length] 27)
  have IX := Ix.mk w2 a2 (nw l.length) c2 l.length 27 (0, 0)
  have R3 := Lib.hid (R2.out.below bz)
  have B3 := Lib.hid (B2.out.trans (bz.mono B2.out.size))
  generalize w2.alloc (.cells #[.slice a2 (nw l.length) c2, .int .i64 l.length] 27) = w3 at *
  clear bz R2 B2
  have hnl : nw l.length ≤ 2600000000000 := by unfold nw; omega
  have HBr := Lib.hid (Brackets_any a2 c2 (wds l (nw l.length)) l.length w3 (HT.out.below B3.out) R3.out (by rw [wds_length]; exact hnl))
  rw [wds_length] at HBr
  refine HBr.out.mono ?_
  rintro r w4 ⟨a4, c4, rfl, _, hb⟩
  have B4 := Lib.hid (B3.out.trans (hb.mono B3.out.size))
  have R4 := Lib.hid (R3.out.below hb)
  have I4 := Ix.below IX hb
  clear hb HBr R3 B3 IX
  have hbl := (brs_le l (nw l.length) (by unfold nw; omega)).2
  have HNW : Hid (nw l.length = (l.length + 63) / 64) := Lib.hid rfl
  have HGX := Lib.hid (fun k (h : k < nw l.length) => wds_get l h)
  have HLZ := Lib.hid (fun k h => last_zero l k h)
  generalize brs (wds l (nw l.length)) = L at *
  obtain ⟨m, hm⟩ : ∃ m, nw L.length = m := ⟨_, rfl⟩
  have HM : Hid (m = (L.length + 63) / 64) := Lib.hid (by rw [← hm]; rfl)
  rw [hm]
  generalize nw l.length = n at *
  clear hm
  dsimp only
  obtain ⟨x0, x1⟩ := I4.out
  go_upto_if 21 with (fail)
  have hn1 : (n : Int) = ((l.length : Int) + 63) / 64 := by have := HNW.out; omega
  have hm1 : (m : Int) = ((L.length : Int) + 63) / 64 := by have := HM.out; omega
  have HN1 := Lib.hid hn1; have HM1 := Lib.hid hm1
  clear hn1 hm1
  go_cut [7] (fun s7 wx => ∃ v : BitVec 64, s7 = .int .u64 (val v) ∧ Hid (l.length % 64 ≠ 0 → sr v (l.length % 64) = 0#64) ∧ Hid (Below w.heap.size w wx) ∧ Hid (Ix wx w2.heap.size a2 n c2 l.length))
  case first =>
    rcases n with _ | k
    · have HZ : Hid (l.length % 64 = 0) := Lib.hid (by have := HNW.out; omega)
      go_wp2
      go_meet
      exact ⟨0#64, rfl, Lib.hid (fun h => absurd HZ.out h), B4, I4⟩
    · obtain ⟨b, off, rfl, ⟨m0, m1, m2, m3, m4, m5, m6⟩⟩ := R4.out k _ (HGX.out k (by omega))
      have HV : Hid (l.length % 64 ≠ 0 → sr (wd l k).all (l.length % 64) = 0#64) := Lib.hid (fun h => HLZ.out k (by have := HNW.out; omega))
      have HAL := Lib.hid (show (wd l k).q ||| (wd l k).n ||| (wd l k).o ||| (wd l k).c ||| (wd l k).k ||| (wd l k).m ||| (wd l k).s = (wd l k).all from rfl)
      generalize wd l k = x at *
      have hk1 : (((k + 1 : Nat) : Int) - 1) = k := by omega
      have hk0 : (0 : Int) < ((k + 1 : Nat) : Int) := by omega
      have e : ((k : Int) + 1 - 1) = k := by omega
      go_upto_region 7 with (fail)
      clear m0 m1 m2 m3 m4 m5 m6
      have M1 := MbB.mk w4 x (0, 0)
      have bz := (Below.refl w4.heap.size w4).alloc (Nat.le_refl _) (.cells #[.int .u64 (val x.q), .int .u64 (val x.n), .int .u64 (val x.o), .int .u64 (val x.c), .int .u64 (val x.k), .int .u64 (val x.m), .int .u64 (val x.s)] 49)
      have B5 := Lib.hid (B4.out.trans (bz.mono B4.out.size))
      have I5 := Ix.below I4 bz
      generalize w4.alloc (.cells #[.int .u64 (val x.q), .int .u64 (val x.n), .int .u64 (val x.o), .int .u64 (val x.c), .int .u64 (val x.k), .int .u64 (val x.m), .int .u64 (val x.s)] 49) = w5 at *
      clear bz x0 x1
      obtain ⟨m0, m1, m2, m3, m4, m5, m6⟩ := (MbB.mx M1).out
      go_wp2
      go_meet
      exact ⟨x.all, by rw [u_or, u_or, u_or, u_or, u_or, u_or, HAL.out], HV, B5, I5⟩
  case rest =>
    obtain ⟨v, rfl, HV, B5, I5⟩ := hcut
    clear x0 x1 I4
    obtain ⟨x0, x1⟩ := I5.out
    by_cases h0 : l.length % 64 = 0
    · have h1 : (l.length : Int) % 64 = 0 := by omega
      have hn2 : ((l.length : Int) + 63) / 64 = n := HN1.out.symm
      have hm2 : ((L.length : Int) + 63) / 64 = m := HM1.out.symm
      have hb2 : (L.length : Int) ≤ l.length := by omega
      clear h0
      go_wp2
      go_ret
      exact ⟨rfl, B5.out⟩
    · have h1 : ¬ (l.length : Int) % 64 = 0 := by omega
      have hz := HV.out h0
      have hz2 : val v / 2 ^ (l.length % 64) = 0 := by rw [u_shr, hz]; rfl
      have hn2 : ((l.length : Int) + 63) / 64 = n := HN1.out.symm
      have hm2 : ((L.length : Int) + 63) / 64 = m := HM1.out.symm
      have hb2 : (L.length : Int) ≤ l.length := by omega
      clear h0 hz
      go_wp2
      go_ret
      exact ⟨rfl, B5.out⟩
end Go.Proofs.YtibgejndlllhfaaDoor
