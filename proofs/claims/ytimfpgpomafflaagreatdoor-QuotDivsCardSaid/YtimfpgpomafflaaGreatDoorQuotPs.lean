/- The document's parts of a number: its digits ahead of the point and behind it. -/
import Derived.Test.YtimfpgpomafflaaGreatDoorQuotMb
import Derived.Test.YtimfpgpomafflaaGreatDoorDecOd
import Derived.Test.YtimfpgpomafflaaGreatDoorDecSk
namespace Go.Proofs.YtimfpgpomafflaaGreatDoor
open Go.RowKit LM

/-- what parts tells: the digits ahead of the point; those behind it, of which the highest counts -/
def ResPt (p : Pl) (w : World) (r : Ending) (w' : World) : Prop := ∃ a1 c1 a2 c2 l2, r = .returned (.tuple #[.slice a1 (dg 10 (p.m / 10 ^ plc p)).length c1, .slice a2 l2.length c2]) ∧ RdC w' a1 c1 (p.m / 10 ^ plc p) ∧ Rd w' .u8 a2 l2 ∧ l2.length = plc p ∧ l2[plc p - 1]?.getD 0 = p.m / 10 ^ (plc p - 1) % 10 ∧ Below w.heap.size w w'
theorem own_empty (w : World) {B : Nat} (hB : B ≤ w.heap.size) : Own (w.alloc (.cells #[] 5)) B 5 .u8 (some ⟨w.heap.size, 0, none⟩) 0 [] := by
  have h := World.ownsRow_made (base := B) (e := 5) (size := 1) w #[] 0 hB (Nat.zero_le _) (by simp)
  exact h
set_option maxHeartbeats 8000000 in
theorem parts_far (p : Pl) (a : Option Addr) (c k : Nat) (w : World) (he : p.e < 0) (hk : k = plc p) (hk2 : k ≤ 20000) (hge : dl p.m ≤ k) (hr : RdC w a c p.m) :
    Calls Tryz.prog 82 #[.agg #[.bool p.neg, .slice a (dg 10 p.m).length c, .int .i64 p.e]] w (ResPt p w) := by
  have hke : -p.e = (k : Int) := by rw [hk]; unfold plc; omega
  obtain ⟨l, hl⟩ : ∃ l, l = dg 10 p.m := ⟨_, rfl⟩
  have hrd : Rd w .u8 a l := by rw [hl]; exact hr.1
  have hnone : a = none → l = [] := fun h => by rw [hl, (hr.2.2.2 h).1, dg_zero]
  have hll : l.length ≤ k := by rw [hl]; exact hge
  rw [← hl]
  have hnone2 : a = none → l = [] ∧ c = 0 := fun h => ⟨hnone h, (hr.2.2.2 h).2⟩
  have hcl : (([] : List Nat).length + l.length) * 1 ≤ 140737488355328 := by simp; omega
  have hcl2 : ([] : List Nat).length + l.length ≤ maxLen := by unfold maxLen; simp; omega
  have HRD := Lib.hid hrd; have HNONE := Lib.hid hnone2; have HL := Lib.hid hl; have HK := Lib.hid hk; have HCL := Lib.hid hcl; have HCL2 := Lib.hid hcl2
  clear hr hrd hnone hnone2 hge hk hl hcl hcl2
  obtain ⟨n, hn⟩ : ∃ n, n = l.length := ⟨_, rfl⟩
  rw [← hn] at hll
  rw [← hn]
  have HN := Lib.hid hn
  clear hn
  go_enter Tryz.func82, Tryz.ntmps82
  have BX := (Below.refl w.heap.size w).alloc (Nat.le_refl _) (.cells #[.bool p.neg, .slice a n c, .int .i64 p.e] 53)
  have BE := BX.alloc BX.size (.cells #[] 5)
  have hE := own_empty (w.alloc (.cells #[.bool p.neg, .slice a n c, .int .i64 p.e] 53)) (B := w.heap.size) BX.size
  have hz : (w.alloc (.cells #[.bool p.neg, .slice a n c, .int .i64 p.e] 53)).heap.size = w.heap.size + 1 := by simp
  rw [hz] at hE
  have HE := Lib.hid hE; have HBE := Lib.hid BE
  clear hE BX BE hz
  go_wp2_with (at_builtin; refine wp_cat _ rfl _ _ 51 rfl w.heap.size 5 .u8 1 Tryz.underlying51 infoU8 _ a 0 c 0 n [] l rfl HN.out rfl rfl HE.out (HRD.out.below HBE.out) HNONE.out HCL.out HCL2.out HBE.out.size ?_)
  intro a4 c4 w4 hown4 hb4 _
  have hb4' := HBE.out.trans hb4
  clear hb4 HRD HNONE HE HBE HCL HCL2
  go_wp2
  go_loopw [5] (fun v wr => ∃ (q cap j : Nat) (ao : Option Addr) (out : List Nat), v = .slice ao q cap ∧ Hid (q = out.length) ∧ Hid (out = l ++ List.replicate j 0) ∧ q ≤ k ∧ Own wr w.heap.size 5 .u8 ao cap out ∧ Below w.heap.size w wr) (fun v _ => match v with | .slice _ q _ => k - q | _ => 0)
  case atStart => exact ⟨n, c4, 0, a4, [] ++ l, by first | rfl | simp, Lib.hid (by rw [HN.out]; rfl), Lib.hid (by simp), hll, hown4, hb4'⟩
  case round =>
    obtain ⟨q, cap, j, ao, out, rfl, HQ, HO, hqk, hown, hbl⟩ := hrel
    by_cases hgo : q < k
    · have hb1 : (out.length + 1) * 1 ≤ 140737488355328 := by rw [← HQ.out]; omega
      have hb2 : out.length + 1 ≤ maxLen := by rw [← HQ.out]; unfold maxLen; omega
      have HB1 := Lib.hid hb1; have HB2 := Lib.hid hb2
      clear hb1 hb2
      go_wp2_with (at_builtin; refine wp_push wr rfl _ _ 51 rfl w.heap.size 5 .u8 1 Tryz.underlying51 infoU8 ao cap q out HQ.out rfl _ 0 (by omega) _ rfl hown HB1.out HB2.out hbl.size ?_)
      intro ao' cap' w2 hown2 hb2
      have hbl2 := hbl.trans hb2
      clear hb2 HB1 HB2
      go_wp2
      go_roundw
      case rel => exact ⟨q + 1, cap', j + 1, ao', out ++ [0], rfl, Lib.hid (by rw [HQ.out]; simp), Lib.hid (by rw [HO.out, List.append_assoc, List.replicate_succ']), by omega, hown2, hbl2⟩
      case measure => simp; omega
    · obtain rfl : q = k := by omega
      have hlen := HQ.out
      have hz : p.m / 10 ^ plc p = 0 := by
        rw [Nat.div_eq_of_lt]
        have h1 := lt_dl p.m
        have h2 : dl p.m ≤ plc p := by rw [← HK.out]; have := HN.out; rw [HL.out] at this; unfold dl; omega
        exact Nat.lt_of_lt_of_le h1 (Nat.pow_le_pow_right (by omega) h2)
      have hlast : out[plc p - 1]?.getD 0 = p.m / 10 ^ (plc p - 1) % 10 := by
        rw [HO.out, HL.out]
        have hq1 : 1 ≤ plc p := by unfold plc; omega
        by_cases hj : plc p - 1 < (dg 10 p.m).length
        · rw [List.getElem?_append_left hj]
          exact dg_lowest hj
        · rw [List.getElem?_append_right (by omega)]
          have e1 : ((List.replicate j 0)[plc p - 1 - (dg 10 p.m).length]?).getD 0 = 0 := by
            rw [List.getElem?_replicate]; split <;> rfl
          rw [e1]
          have h1 := lt_dl p.m
          have h2 : dl p.m ≤ plc p - 1 := by unfold dl; omega
          rw [Nat.div_eq_of_lt (Nat.lt_of_lt_of_le h1 (Nat.pow_le_pow_right (by omega) h2))]
      have hrd := hown.rd
      have HRD := Lib.hid hrd; have HZ := Lib.hid hz; have HLA := Lib.hid hlast; have HLE := Lib.hid hlen
      clear hrd hz hlast hlen hown HQ HO HL HN
      go_wp2
      refine bodyPost_ret (v := .tuple #[.slice none 0 0, .slice ao q cap]) (by simp [results, Tryz.results82, go_sem]) rfl ?_
      refine ⟨none, 0, ao, cap, out, ?_, ?_, HRD.out, by rw [← HLE.out, HK.out], HLA.out, hbl⟩
      · rw [HZ.out, dg_zero, ← HLE.out]; rfl
      · rw [HZ.out]; exact RdC.zero _
theorem dg_div_drop (m : Nat) : ∀ k, dg 10 (m / 10 ^ k) = (dg 10 m).drop k := by
  intro k
  induction k generalizing m with
  | zero => simp
  | succ k ih =>
    rw [Nat.pow_succ, Nat.mul_comm, ← Nat.div_div_eq_div_mul, ih]
    rcases Nat.eq_zero_or_pos m with h | h
    · subst h; rw [Nat.zero_div, dg_zero]; simp
    · rw [dg_pos (by omega) h]; rfl
set_option maxHeartbeats 8000000 in
theorem parts_near (p : Pl) (a : Option Addr) (c k : Nat) (w : World) (he : p.e < 0) (hk : k = plc p) (hlt : k < dl p.m) (hd : dl p.m ≤ 20000) (hr : RdC w a c p.m) :
    Calls Tryz.prog 82 #[.agg #[.bool p.neg, .slice a (dg 10 p.m).length c, .int .i64 p.e]] w (ResPt p w) := by
  have hke : -p.e = (k : Int) := by rw [hk]; unfold plc; omega
  have hlt' : k < (dg 10 p.m).length := hlt
  obtain ⟨b, off, rfl, hc⟩ := hr.1.at (by omega)
  have hcap := hr.2
  have HC := Lib.hid hc; have HK := Lib.hid hk; have HR := Lib.hid hr
  have hcc := hcap.1
  have hcm := hcap.2.1
  unfold maxLen at hcm
  obtain ⟨n, hn⟩ : ∃ n, n = (dg 10 p.m).length := ⟨_, rfl⟩
  have hd' : n ≤ 20000 := by rw [hn]; exact hd
  rw [← hn] at hlt' hcc
  rw [← hn]
  have HN := Lib.hid hn
  clear hc hk hr hcap hd hlt hn
  go_enter Tryz.func82, Tryz.ntmps82
  have BX := (Below.refl w.heap.size w).alloc (Nat.le_refl _) (.cells #[.bool p.neg, .slice (some ⟨b, off, none⟩) n c, .int .i64 p.e] 53)
  go_wp2_with fail
  go_region
  have e1 : plc p = k := HK.out.symm
  have hRf := HR.out
  have hdr : dg 10 (p.m / 10 ^ k) = (dg 10 p.m).drop k := dg_div_drop p.m k
  have hln : (dg 10 (p.m / 10 ^ k)).length = n - k := by rw [hdr, List.length_drop, HN.out]
  have hw1 : ∀ W, Below w.heap.size w W → RdC W (some ⟨b, off + k, none⟩) (c - k) (p.m / 10 ^ k) := fun W hb => by
    refine ⟨?_, by rw [hln]; omega, by unfold maxLen; omega, fun h => by cases h⟩
    rw [hdr]
    exact ((hRf.1.below' hb (Nat.le_refl _))).drop k
  have hw2 : ∀ W, Below w.heap.size w W → Rd W .u8 (some ⟨b, off, none⟩) ((dg 10 p.m).take k) := fun W hb => (hRf.1.below' hb (Nat.le_refl _)).take k
  have hl2 : ((dg 10 p.m).take k).length = k := by rw [List.length_take, ← HN.out]; omega
  have hq1 : 1 ≤ plc p := by unfold plc; omega
  have hla : ((dg 10 p.m).take k)[k - 1]?.getD 0 = p.m / 10 ^ (k - 1) % 10 := by
    rw [List.getElem?_take, if_pos (by omega)]
    exact dg_lowest (by rw [← HN.out]; omega)
  have W1 := Lib.hid hw1; have W2 := Lib.hid hw2; have L2 := Lib.hid hl2; have LA := Lib.hid hla; have LN := Lib.hid hln; have E1 := Lib.hid e1
  have B_ := Lib.hid BX
  clear hw1 hw2 hl2 hla hln hdr hRf e1 hq1 BX HR HC
  go_wp2
  refine bodyPost_ret (v := .tuple #[.slice (some ⟨b, off + k, none⟩) (n - k) (c - k), .slice (some ⟨b, off, none⟩) k c]) (by simp [results, Tryz.results82, go_sem]) rfl ?_
  refine ⟨some ⟨b, off + k, none⟩, c - k, some ⟨b, off, none⟩, c, (dg 10 p.m).take k, ?_, ?_, ?_, ?_, ?_, ?_⟩
  · rw [E1.out, LN.out, L2.out]
  · rw [E1.out]; exact W1.out _ (by first | exact B_.out | exact B_.out.drew)
  · exact W2.out _ (by first | exact B_.out | exact B_.out.drew)
  · rw [L2.out, E1.out]
  · rw [E1.out]; exact LA.out
  · first | exact B_.out | exact B_.out.drew
theorem parts_any (p : Pl) (a : Option Addr) (c : Nat) (w : World) (he : p.e < 0) (hin : inR p = true) (hr : RdC w a c p.m) :
    Calls Tryz.prog 82 #[.agg #[.bool p.neg, .slice a (dg 10 p.m).length c, .int .i64 p.e]] w (ResPt p w) := by
  have hb := inR_bounds hin
  rcases Nat.lt_or_ge (plc p) (dl p.m) with h | h
  · exact parts_near p a c (plc p) w he rfl h (by omega) hr
  · exact parts_far p a c (plc p) w he rfl (by unfold plc; omega) h hr
end Go.Proofs.YtimfpgpomafflaaGreatDoor

/- Walks of the document's Order, Compare, Cmp. -/
namespace Go.Proofs.YtimfpgpomafflaaGreatDoor
open Go.RowKit LM

end Go.Proofs.YtimfpgpomafflaaGreatDoor

/- Walks of the document's Compare, Cmp. -/
namespace Go.Proofs.YtimfpgpomafflaaGreatDoor
open Go.RowKit LM

end Go.Proofs.YtimfpgpomafflaaGreatDoor

/- Walk of the document's Sum. -/
namespace Go.Proofs.YtimfpgpomafflaaGreatDoor
open Go.RowKit LM

def ResSm (p q : Pl) (w : World) (r : Ending) (w' : World) : Prop := Below w.heap.size w w' ∧
  ((∃ (s : Pl) (a : Option Addr) (c : Nat), r = .returned (.tuple #[.agg #[.bool s.neg, .slice a (dg 10 s.m).length c, .int .i64 s.e], .bool true]) ∧ RdC w' a c s.m ∧ PlainP s ∧ dl s.m ≤ 1000000 ∧ -1000000 ≤ s.e ∧ s.e ≤ 1000000 ∧ addV p q = tellP s) ∨
   (r = .returned (.tuple #[.agg #[.bool false, .slice none 0 0, .int .i64 0], .bool false]) ∧ addV p q = ⟨3, zP⟩))

theorem add10 (u v : Nat) (a b : Option Addr) (ca cb : Nat) (w : World) (hu : (dg 10 u).length ≤ 30000) (hv : (dg 10 v).length ≤ 30000) (ha : RdC w a ca u) (hb : RdC w b cb v) :
    Calls Tryz.prog 76 #[.slice a (dg 10 u).length ca, .slice b (dg 10 v).length cb] w (ResDg (u + v) w) := by
  have h := RAdd_any a b ca cb (dg 10 u) (dg 10 v) w (by omega) (by omega) (Lo_dg (by omega) _) (Lo_dg (by omega) _) ha.1 hb.1
  rw [vl_dg (by omega), vl_dg (by omega)] at h
  exact h.mono fun e w' ⟨a', c', he, ho, hb⟩ => ⟨a', c', he, RdC.ofOwn ho, hb⟩
theorem sub10 (u v : Nat) (a b : Option Addr) (ca cb : Nat) (w : World) (hu : (dg 10 u).length ≤ 30000) (hle : v ≤ u) (ha : RdC w a ca u) (hb : RdC w b cb v) :
    Calls Tryz.prog 84 #[.slice a (dg 10 u).length ca, .slice b (dg 10 v).length cb] w (ResDg (u - v) w) := by
  have h := RSub_any a b ca cb (dg 10 u) (dg 10 v) w (by omega) (dg_len_le (by omega) hle) (Lo_dg (by omega) _) (Lo_dg (by omega) _) (by rw [vl_dg (by omega), vl_dg (by omega)]; exact hle) ha.1 hb.1
  rw [vl_dg (by omega), vl_dg (by omega)] at h
  exact h.mono fun e w' ⟨a', c', he, ho, hb⟩ => ⟨a', c', he, RdC.ofOwn ho, hb⟩

theorem ual_d10 {p : Pl} {e : Int} (h : Bd p) (he : -10400 ≤ e) : (dg 10 (ual p e)).length ≤ 21000 := by
  have h1 : ual p e < 10 ^ ((dg 10 p.m).length + (p.e - e).toNat) := by
    unfold ual; rw [Nat.pow_add]
    exact Nat.mul_lt_mul_of_pos_right (dg_upper (b := 10) (by omega) p.m) (Nat.pow_pos (by omega))
  have h0 : (dg 10 p.m).length ≤ 400 := h.1
  have h3 := dg_len_of_lt (b := 10) (by omega) h1
  have h5 := h.2
  omega
theorem sum_len {u v N : Nat} (hu : (dg 10 u).length ≤ N) (hv : (dg 10 v).length ≤ N) : (dg 10 (u + v)).length ≤ N + 1 ∧ (dg 10 (u - v)).length ≤ N ∧ (dg 10 (v - u)).length ≤ N := by
  refine ⟨?_, Nat.le_trans (dg_len_le (by omega) (Nat.sub_le _ _)) hu, Nat.le_trans (dg_len_le (by omega) (Nat.sub_le _ _)) hv⟩
  have k1 := dg_upper (b := 10) (by omega) u
  have k2 := dg_upper (b := 10) (by omega) v
  refine dg_len_of_lt (by omega) ?_
  have k3 : 10 ^ (dg 10 u).length ≤ 10 ^ N := Nat.pow_le_pow_right (by omega) hu
  have k4 : 10 ^ (dg 10 v).length ≤ 10 ^ N := Nat.pow_le_pow_right (by omega) hv
  rw [Nat.pow_succ]; omega
theorem made {s : Bool} {v : Nat} {e : Int} (hv : (dg 10 v).length ≤ 21001) (h1 : -10400 ≤ e) (h2 : e ≤ 10001) : PlainP (pl s v e) ∧ dl (pl s v e).m ≤ 1000000 ∧ -1000000 ≤ (pl s v e).e ∧ (pl s v e).e ≤ 1000000 := by
  have h3 := pl_len (s := s) (v := v) (e := e)
  have h4 : tz v ≤ 30000 := by
    rcases Nat.eq_zero_or_pos v with h | h
    · rw [h, tz_zero]; omega
    · have := tz_len h; omega
  obtain ⟨h5, h6⟩ := pl_e (s := s) (v := v) (e := e) (by omega) (by omega) h4
  exact ⟨pl_plain _ _ _, by unfold dl; omega, h5, h6⟩
theorem RdC.three {w : World} {a : Option Addr} {c m g1 : Nat} (h : RdC w a c m) {b1 : Bool} {s1 : Option Addr} {n1 d1 : Nat} {e1 : Int}
    (u0 : w.cell? ⟨g1, 0, none⟩ = some (.bool b1)) (u1 : w.cell? ⟨g1, 1, none⟩ = some (.slice s1 n1 d1)) (u2 : w.cell? ⟨g1, 2, none⟩ = some (.int .i64 e1)) (x0 x1 x2 : Value) :
    RdC (((w.setCell ⟨g1, 0, none⟩ x0).setCell ⟨g1, 1, none⟩ x1).setCell ⟨g1, 2, none⟩ x2) a c m := by
  refine ⟨?_, h.2⟩
  have h1 := h.1.setOther (v := x0) u0 (by intro n h; cases h)
  have h2 := h1.setOther (g := g1) (j := 1) (v := x1) (v0 := .slice s1 n1 d1) (by simp [go_sem, u1]) (by intro n h; cases h)
  exact h2.setOther (g := g1) (j := 2) (v := x2) (v0 := .int .i64 e1) (by simp [go_sem, u2]) (by intro n h; cases h)

end Go.Proofs.YtimfpgpomafflaaGreatDoor

/- The document's Rounded. -/
namespace Go.Proofs.YtimfpgpomafflaaGreatDoor
open Go.RowKit LM

theorem RdC.box {w : World} {a : Option Addr} {c m g : Nat} {s : Bool} {x : Option Addr} {n d : Nat} {e : Int} (h : RdC w a c m) (q : Hid (Qx w g (.bool s) (.slice x n d) (.int .i64 e))) (hk : IntKind.u8 ≠ .i64) (x0 x1 x2 : Value) :
    RdC (((w.setCell ⟨g, 0, none⟩ x0).setCell ⟨g, 1, none⟩ x1).setCell ⟨g, 2, none⟩ x2) a c m := ⟨Rd.box h.1 q hk _ _ _, h.2⟩
theorem dg10_1 : dg 10 1 = [1] := by rw [dg_pos (by omega) (by omega)]; simp [dg_zero]
theorem one_any (w : World) : Calls Tryz.prog 77 #[] w (ResDg 1 w) := by
  go_enter Tryz.func77, Tryz.ntmps77
  go_wp2
  go_ret
  refine ⟨some ⟨w.heap.size, 0, none⟩, 1, by rw [dg10_1]; rfl, ⟨?_, by rw [dg10_1]; exact Nat.le_refl _, by unfold maxLen; omega, fun h => by cases h⟩, (Below.refl _ _).alloc (Nat.le_refl _) _⟩
  rw [dg10_1]
  intro j hj
  obtain rfl : j = 0 := by simpa using hj
  exact ⟨w.heap.size, 0, rfl, by simp⟩
theorem cut_len {p : Pl} (hin : inR p = true) : (dg 10 (p.m / 10 ^ plc p)).length ≤ 1000 ∧ (dg 10 (p.m / 10 ^ plc p + 1)).length ≤ 1001 := by
  have hb := (inR_bounds hin).1
  have h1 : dl (p.m / 10 ^ plc p) ≤ 400 := Nat.le_trans (dl_mono (Nat.div_le_self _ _)) hb
  generalize p.m / 10 ^ plc p = V at *
  have h2 := lt_dl V
  have h3 : V + 1 < 10 ^ (dl V + 1) := by rw [Nat.pow_succ]; omega
  have h4 := dl_lt h3
  unfold dl at h1 h4
  omega
set_option maxHeartbeats 8000000 in
set_option maxRecDepth 20000 in
theorem Rd_0t (m : Nat) (e : Int) (a : Option Addr) (c : Nat) (w : World) (he : e < 0) (hin : inR ⟨true, m, e⟩ = true) (hr : RdC w a c m)  :
    Calls Tryz.prog 45 #[.agg #[.bool true, .slice a (dg 10 m).length c, .int .i64 e], .int .i64 0] w (ResM (pl true (m / 10 ^ plc ⟨true, m, e⟩) 0) w) := by
  have hP := fun W hb => parts_any ⟨true, m, e⟩ a c W he hin (hr.below (hb : Below w.heap.size w W))
  obtain ⟨hl1, hl2⟩ := cut_len hin
  obtain ⟨j, hj⟩ : ∃ j, plc ⟨true, m, e⟩ = j + 1 := ⟨plc ⟨true, m, e⟩ - 1, by unfold plc; simp only; omega⟩
  have hj2 : j < 20000 := by have := inR_bounds hin; unfold plc at hj; simp only at hj this; omega
  unfold ResPt at hP
  rw [hj, Nat.add_sub_cancel] at hP
  rw [hj] at hl1 hl2
  rw [hj]
  have hM := fun v x y W (hl : (dg 10 v).length ≤ 1000000) r => Make_any true x y v 0 W hl (by omega) (by omega) r
  have hA := fun x y b d W r1 r2 => add10 (m / 10 ^ (j + 1)) 1 x b y d W (Nat.le_trans hl1 (by omega)) (by rw [dg10_1]; simp) r1 r2
  generalize (⟨true, m, e⟩ : Pl).m / 10 ^ (j + 1) = q at *
  generalize (⟨true, m, e⟩ : Pl).m / 10 ^ j % 10 = dd at *
  have HP := Lib.hid hP; have HA := Lib.hid hA; have HM := Lib.hid hM; have HL1 := Lib.hid hl1; have HL2 := Lib.hid hl2
  clear hP hA hM hr hl1 hl2 hj hin
  go_enter Tryz.func45, Tryz.ntmps45
  have b1 := (((Below.refl w.heap.size w).alloc (Nat.le_refl _) (.cells #[.bool true, .slice a (dg 10 m).length c, .int .i64 e] 53)).alloc (by simp) (.cells #[.bool false, .slice none 0 0, .int .i64 0] 53))
  have X_x := (Qx.below (Qx.new w (.bool true) (.slice a (dg 10 m).length c) (.int .i64 e) 53) ((Below.refl _ _).alloc (Nat.le_refl _) (.cells #[.bool false, .slice none 0 0, .int .i64 0] 53)))
  have F_x := (Qf.below (Qf.new w (.bool true) (.slice a (dg 10 m).length c) (.int .i64 e) 53) (Qx.lt (Qx.new w (.bool true) (.slice a (dg 10 m).length c) (.int .i64 e) 53)) ((Below.refl _ _).alloc (Nat.le_refl _) (.cells #[.bool false, .slice none 0 0, .int .i64 0] 53)))
  have X_r := (Qx.new (w.alloc (.cells #[.bool true, .slice a (dg 10 m).length c, .int .i64 e] 53)) (.bool false) (.slice none 0 0) (.int .i64 0) 53)
  have F_r := (Qf.new (w.alloc (.cells #[.bool true, .slice a (dg 10 m).length c, .int .i64 e] 53)) (.bool false) (.slice none 0 0) (.int .i64 0) 53)
  have z : (w.alloc (.cells #[.bool true, .slice a (dg 10 m).length c, .int .i64 e] 53)).heap.size = w.heap.size + 1 := by simp
  rw [z] at X_r F_r
  clear z
  obtain ⟨kx0, kx1, kx2⟩ := X_x.out
  go_wp2_with fail
  clear kx0 kx1 kx2
  refine (HP.out _ b1).mono ?_
  rintro r w2 ⟨xq, yq, xb, yb, lb, rfl, h1, h2, h3, h4, hc⟩
  have b2 := b1.trans (hc.mono b1.size)
  replace F_x := Qf.below F_x (Qx.lt X_x) hc
  replace X_x := Qx.below X_x hc
  replace F_r := Qf.below F_r (Qx.lt X_r) hc
  replace X_r := Qx.below X_r hc
  clear hc b1
  have R_q := Lib.hid h1
  have R_b := Lib.hid h2
  clear h1 h2
  clear h3 h4
  obtain ⟨kx0, kx1, kx2⟩ := X_x.out
  go_wp2_with fail
  clear kx0 kx1 kx2
  refine (HM.out q _ _ _ (by have := HL1.out; omega) R_q.out).mono ?_
  rintro r w3 ⟨xm, ym, rfl, h1, hc⟩
  have b3 := b2.trans (hc.mono b2.size)
  replace F_x := Qf.below F_x (Qx.lt X_x) hc
  replace X_x := Qx.below X_x hc
  replace F_r := Qf.below F_r (Qx.lt X_r) hc
  replace X_r := Qx.below X_r hc
  replace R_q := Lib.hid (R_q.out.below hc)
  replace R_b := Lib.hid (R_b.out.below hc)
  clear hc b2
  have R_m := Lib.hid h1
  clear h1
  generalize hpl : pl true (q) 0 = P at *
  have HPL := Lib.hid hpl
  clear hpl
  obtain ⟨kr0, kr1, kr2⟩ := X_r.out
  have kf_r := F_r.out
  unfold Qf at kf_r
  go_wp2
  refine bodyPost_ret (v := .agg #[.bool P.neg, .slice xm (dg 10 P.m).length ym, .int .i64 P.e]) (by simp [results, Tryz.results45, go_sem, kr0, kr1, kr2]) rfl ?_
  exact ⟨xm, ym, rfl, RdC.box R_m.out X_r (by decide) _ _ _, (Below.box b3 (g := w.heap.size + 1) (by omega) _ _ _)⟩
set_option maxHeartbeats 8000000 in
set_option maxRecDepth 20000 in
theorem Rd_0f (m : Nat) (e : Int) (a : Option Addr) (c : Nat) (w : World) (he : e < 0) (hin : inR ⟨false, m, e⟩ = true) (hr : RdC w a c m)  :
    Calls Tryz.prog 45 #[.agg #[.bool false, .slice a (dg 10 m).length c, .int .i64 e], .int .i64 0] w (ResM (pl false (m / 10 ^ plc ⟨false, m, e⟩) 0) w) := by
  have hP := fun W hb => parts_any ⟨false, m, e⟩ a c W he hin (hr.below (hb : Below w.heap.size w W))
  obtain ⟨hl1, hl2⟩ := cut_len hin
  obtain ⟨j, hj⟩ : ∃ j, plc ⟨false, m, e⟩ = j + 1 := ⟨plc ⟨false, m, e⟩ - 1, by unfold plc; simp only; omega⟩
  have hj2 : j < 20000 := by have := inR_bounds hin; unfold plc at hj; simp only at hj this; omega
  unfold ResPt at hP
  rw [hj, Nat.add_sub_cancel] at hP
  rw [hj] at hl1 hl2
  rw [hj]
  have hM := fun v x y W (hl : (dg 10 v).length ≤ 1000000) r => Make_any false x y v 0 W hl (by omega) (by omega) r
  have hA := fun x y b d W r1 r2 => add10 (m / 10 ^ (j + 1)) 1 x b y d W (Nat.le_trans hl1 (by omega)) (by rw [dg10_1]; simp) r1 r2
  generalize (⟨false, m, e⟩ : Pl).m / 10 ^ (j + 1) = q at *
  generalize (⟨false, m, e⟩ : Pl).m / 10 ^ j % 10 = dd at *
  have HP := Lib.hid hP; have HA := Lib.hid hA; have HM := Lib.hid hM; have HL1 := Lib.hid hl1; have HL2 := Lib.hid hl2
  clear hP hA hM hr hl1 hl2 hj hin
  go_enter Tryz.func45, Tryz.ntmps45
  have b1 := (((Below.refl w.heap.size w).alloc (Nat.le_refl _) (.cells #[.bool false, .slice a (dg 10 m).length c, .int .i64 e] 53)).alloc (by simp) (.cells #[.bool false, .slice none 0 0, .int .i64 0] 53))
  have X_x := (Qx.below (Qx.new w (.bool false) (.slice a (dg 10 m).length c) (.int .i64 e) 53) ((Below.refl _ _).alloc (Nat.le_refl _) (.cells #[.bool false, .slice none 0 0, .int .i64 0] 53)))
  have F_x := (Qf.below (Qf.new w (.bool false) (.slice a (dg 10 m).length c) (.int .i64 e) 53) (Qx.lt (Qx.new w (.bool false) (.slice a (dg 10 m).length c) (.int .i64 e) 53)) ((Below.refl _ _).alloc (Nat.le_refl _) (.cells #[.bool false, .slice none 0 0, .int .i64 0] 53)))
  have X_r := (Qx.new (w.alloc (.cells #[.bool false, .slice a (dg 10 m).length c, .int .i64 e] 53)) (.bool false) (.slice none 0 0) (.int .i64 0) 53)
  have F_r := (Qf.new (w.alloc (.cells #[.bool false, .slice a (dg 10 m).length c, .int .i64 e] 53)) (.bool false) (.slice none 0 0) (.int .i64 0) 53)
  have z : (w.alloc (.cells #[.bool false, .slice a (dg 10 m).length c, .int .i64 e] 53)).heap.size = w.heap.size + 1 := by simp
  rw [z] at X_r F_r
  clear z
  obtain ⟨kx0, kx1, kx2⟩ := X_x.out
  go_wp2_with fail
  clear kx0 kx1 kx2
  refine (HP.out _ b1).mono ?_
  rintro r w2 ⟨xq, yq, xb, yb, lb, rfl, h1, h2, h3, h4, hc⟩
  have b2 := b1.trans (hc.mono b1.size)
  replace F_x := Qf.below F_x (Qx.lt X_x) hc
  replace X_x := Qx.below X_x hc
  replace F_r := Qf.below F_r (Qx.lt X_r) hc
  replace X_r := Qx.below X_r hc
  clear hc b1
  have R_q := Lib.hid h1
  have R_b := Lib.hid h2
  clear h1 h2
  clear h3 h4
  obtain ⟨kx0, kx1, kx2⟩ := X_x.out
  go_wp2_with fail
  clear kx0 kx1 kx2
  refine (HM.out q _ _ _ (by have := HL1.out; omega) R_q.out).mono ?_
  rintro r w3 ⟨xm, ym, rfl, h1, hc⟩
  have b3 := b2.trans (hc.mono b2.size)
  replace F_x := Qf.below F_x (Qx.lt X_x) hc
  replace X_x := Qx.below X_x hc
  replace F_r := Qf.below F_r (Qx.lt X_r) hc
  replace X_r := Qx.below X_r hc
  replace R_q := Lib.hid (R_q.out.below hc)
  replace R_b := Lib.hid (R_b.out.below hc)
  clear hc b2
  have R_m := Lib.hid h1
  clear h1
  generalize hpl : pl false (q) 0 = P at *
  have HPL := Lib.hid hpl
  clear hpl
  obtain ⟨kr0, kr1, kr2⟩ := X_r.out
  have kf_r := F_r.out
  unfold Qf at kf_r
  go_wp2
  refine bodyPost_ret (v := .agg #[.bool P.neg, .slice xm (dg 10 P.m).length ym, .int .i64 P.e]) (by simp [results, Tryz.results45, go_sem, kr0, kr1, kr2]) rfl ?_
  exact ⟨xm, ym, rfl, RdC.box R_m.out X_r (by decide) _ _ _, (Below.box b3 (g := w.heap.size + 1) (by omega) _ _ _)⟩
set_option maxHeartbeats 8000000 in
set_option maxRecDepth 20000 in
theorem Rd_1t (m : Nat) (e : Int) (a : Option Addr) (c : Nat) (w : World) (he : e < 0) (hin : inR ⟨true, m, e⟩ = true) (hr : RdC w a c m)  :
    Calls Tryz.prog 45 #[.agg #[.bool true, .slice a (dg 10 m).length c, .int .i64 e], .int .i64 1] w (ResM (pl true (m / 10 ^ plc ⟨true, m, e⟩ + 1) 0) w) := by
  have hP := fun W hb => parts_any ⟨true, m, e⟩ a c W he hin (hr.below (hb : Below w.heap.size w W))
  obtain ⟨hl1, hl2⟩ := cut_len hin
  obtain ⟨j, hj⟩ : ∃ j, plc ⟨true, m, e⟩ = j + 1 := ⟨plc ⟨true, m, e⟩ - 1, by unfold plc; simp only; omega⟩
  have hj2 : j < 20000 := by have := inR_bounds hin; unfold plc at hj; simp only at hj this; omega
  unfold ResPt at hP
  rw [hj, Nat.add_sub_cancel] at hP
  rw [hj] at hl1 hl2
  rw [hj]
  have hM := fun v x y W (hl : (dg 10 v).length ≤ 1000000) r => Make_any true x y v 0 W hl (by omega) (by omega) r
  have hA := fun x y b d W r1 r2 => add10 (m / 10 ^ (j + 1)) 1 x b y d W (Nat.le_trans hl1 (by omega)) (by rw [dg10_1]; simp) r1 r2
  generalize (⟨true, m, e⟩ : Pl).m / 10 ^ (j + 1) = q at *
  generalize (⟨true, m, e⟩ : Pl).m / 10 ^ j % 10 = dd at *
  have HP := Lib.hid hP; have HA := Lib.hid hA; have HM := Lib.hid hM; have HL1 := Lib.hid hl1; have HL2 := Lib.hid hl2
  clear hP hA hM hr hl1 hl2 hj hin
  go_enter Tryz.func45, Tryz.ntmps45
  have b1 := (((Below.refl w.heap.size w).alloc (Nat.le_refl _) (.cells #[.bool true, .slice a (dg 10 m).length c, .int .i64 e] 53)).alloc (by simp) (.cells #[.bool false, .slice none 0 0, .int .i64 0] 53))
  have X_x := (Qx.below (Qx.new w (.bool true) (.slice a (dg 10 m).length c) (.int .i64 e) 53) ((Below.refl _ _).alloc (Nat.le_refl _) (.cells #[.bool false, .slice none 0 0, .int .i64 0] 53)))
  have F_x := (Qf.below (Qf.new w (.bool true) (.slice a (dg 10 m).length c) (.int .i64 e) 53) (Qx.lt (Qx.new w (.bool true) (.slice a (dg 10 m).length c) (.int .i64 e) 53)) ((Below.refl _ _).alloc (Nat.le_refl _) (.cells #[.bool false, .slice none 0 0, .int .i64 0] 53)))
  have X_r := (Qx.new (w.alloc (.cells #[.bool true, .slice a (dg 10 m).length c, .int .i64 e] 53)) (.bool false) (.slice none 0 0) (.int .i64 0) 53)
  have F_r := (Qf.new (w.alloc (.cells #[.bool true, .slice a (dg 10 m).length c, .int .i64 e] 53)) (.bool false) (.slice none 0 0) (.int .i64 0) 53)
  have z : (w.alloc (.cells #[.bool true, .slice a (dg 10 m).length c, .int .i64 e] 53)).heap.size = w.heap.size + 1 := by simp
  rw [z] at X_r F_r
  clear z
  obtain ⟨kx0, kx1, kx2⟩ := X_x.out
  go_wp2_with fail
  clear kx0 kx1 kx2
  refine (HP.out _ b1).mono ?_
  rintro r w2 ⟨xq, yq, xb, yb, lb, rfl, h1, h2, h3, h4, hc⟩
  have b2 := b1.trans (hc.mono b1.size)
  replace F_x := Qf.below F_x (Qx.lt X_x) hc
  replace X_x := Qx.below X_x hc
  replace F_r := Qf.below F_r (Qx.lt X_r) hc
  replace X_r := Qx.below X_r hc
  clear hc b1
  have R_q := Lib.hid h1
  have R_b := Lib.hid h2
  clear h1 h2
  clear h3 h4
  obtain ⟨kx0, kx1, kx2⟩ := X_x.out
  go_wp2_with fail
  clear kx0 kx1 kx2
  refine (one_any _).mono ?_
  rintro r w3 ⟨xo, yo, rfl, h1, hc⟩
  have b3 := b2.trans (hc.mono b2.size)
  replace F_x := Qf.below F_x (Qx.lt X_x) hc
  replace X_x := Qx.below X_x hc
  replace F_r := Qf.below F_r (Qx.lt X_r) hc
  replace X_r := Qx.below X_r hc
  replace R_q := Lib.hid (R_q.out.below hc)
  replace R_b := Lib.hid (R_b.out.below hc)
  clear hc b2
  have R_o := Lib.hid h1
  clear h1
  go_wp2_with fail
  refine (HA.out _ _ _ _ _ R_q.out R_o.out).mono ?_
  rintro r w4 ⟨xs, ys, rfl, h1, hc⟩
  have b4 := b3.trans (hc.mono b3.size)
  replace F_x := Qf.below F_x (Qx.lt X_x) hc
  replace X_x := Qx.below X_x hc
  replace F_r := Qf.below F_r (Qx.lt X_r) hc
  replace X_r := Qx.below X_r hc
  replace R_q := Lib.hid (R_q.out.below hc)
  replace R_b := Lib.hid (R_b.out.below hc)
  replace R_o := Lib.hid (R_o.out.below hc)
  clear hc b3
  have R_s := Lib.hid h1
  clear h1
  obtain ⟨kx0, kx1, kx2⟩ := X_x.out
  go_wp2_with fail
  clear kx0 kx1 kx2
  refine (HM.out (q + 1) _ _ _ (by have := HL2.out; omega) R_s.out).mono ?_
  rintro r w5 ⟨xm, ym, rfl, h1, hc⟩
  have b5 := b4.trans (hc.mono b4.size)
  replace F_x := Qf.below F_x (Qx.lt X_x) hc
  replace X_x := Qx.below X_x hc
  replace F_r := Qf.below F_r (Qx.lt X_r) hc
  replace X_r := Qx.below X_r hc
  replace R_q := Lib.hid (R_q.out.below hc)
  replace R_b := Lib.hid (R_b.out.below hc)
  replace R_o := Lib.hid (R_o.out.below hc)
  replace R_s := Lib.hid (R_s.out.below hc)
  clear hc b4
  have R_m := Lib.hid h1
  clear h1
  generalize hpl : pl true (q + 1) 0 = P at *
  have HPL := Lib.hid hpl
  clear hpl
  obtain ⟨kr0, kr1, kr2⟩ := X_r.out
  have kf_r := F_r.out
  unfold Qf at kf_r
  go_wp2
  refine bodyPost_ret (v := .agg #[.bool P.neg, .slice xm (dg 10 P.m).length ym, .int .i64 P.e]) (by simp [results, Tryz.results45, go_sem, kr0, kr1, kr2]) rfl ?_
  exact ⟨xm, ym, rfl, RdC.box R_m.out X_r (by decide) _ _ _, (Below.box b5 (g := w.heap.size + 1) (by omega) _ _ _)⟩
set_option maxHeartbeats 8000000 in
set_option maxRecDepth 20000 in
theorem Rd_1f (m : Nat) (e : Int) (a : Option Addr) (c : Nat) (w : World) (he : e < 0) (hin : inR ⟨false, m, e⟩ = true) (hr : RdC w a c m)  :
    Calls Tryz.prog 45 #[.agg #[.bool false, .slice a (dg 10 m).length c, .int .i64 e], .int .i64 1] w (ResM (pl false (m / 10 ^ plc ⟨false, m, e⟩) 0) w) := by
  have hP := fun W hb => parts_any ⟨false, m, e⟩ a c W he hin (hr.below (hb : Below w.heap.size w W))
  obtain ⟨hl1, hl2⟩ := cut_len hin
  obtain ⟨j, hj⟩ : ∃ j, plc ⟨false, m, e⟩ = j + 1 := ⟨plc ⟨false, m, e⟩ - 1, by unfold plc; simp only; omega⟩
  have hj2 : j < 20000 := by have := inR_bounds hin; unfold plc at hj; simp only at hj this; omega
  unfold ResPt at hP
  rw [hj, Nat.add_sub_cancel] at hP
  rw [hj] at hl1 hl2
  rw [hj]
  have hM := fun v x y W (hl : (dg 10 v).length ≤ 1000000) r => Make_any false x y v 0 W hl (by omega) (by omega) r
  have hA := fun x y b d W r1 r2 => add10 (m / 10 ^ (j + 1)) 1 x b y d W (Nat.le_trans hl1 (by omega)) (by rw [dg10_1]; simp) r1 r2
  generalize (⟨false, m, e⟩ : Pl).m / 10 ^ (j + 1) = q at *
  generalize (⟨false, m, e⟩ : Pl).m / 10 ^ j % 10 = dd at *
  have HP := Lib.hid hP; have HA := Lib.hid hA; have HM := Lib.hid hM; have HL1 := Lib.hid hl1; have HL2 := Lib.hid hl2
  clear hP hA hM hr hl1 hl2 hj hin
  go_enter Tryz.func45, Tryz.ntmps45
  have b1 := (((Below.refl w.heap.size w).alloc (Nat.le_refl _) (.cells #[.bool false, .slice a (dg 10 m).length c, .int .i64 e] 53)).alloc (by simp) (.cells #[.bool false, .slice none 0 0, .int .i64 0] 53))
  have X_x := (Qx.below (Qx.new w (.bool false) (.slice a (dg 10 m).length c) (.int .i64 e) 53) ((Below.refl _ _).alloc (Nat.le_refl _) (.cells #[.bool false, .slice none 0 0, .int .i64 0] 53)))
  have F_x := (Qf.below (Qf.new w (.bool false) (.slice a (dg 10 m).length c) (.int .i64 e) 53) (Qx.lt (Qx.new w (.bool false) (.slice a (dg 10 m).length c) (.int .i64 e) 53)) ((Below.refl _ _).alloc (Nat.le_refl _) (.cells #[.bool false, .slice none 0 0, .int .i64 0] 53)))
  have X_r := (Qx.new (w.alloc (.cells #[.bool false, .slice a (dg 10 m).length c, .int .i64 e] 53)) (.bool false) (.slice none 0 0) (.int .i64 0) 53)
  have F_r := (Qf.new (w.alloc (.cells #[.bool false, .slice a (dg 10 m).length c, .int .i64 e] 53)) (.bool false) (.slice none 0 0) (.int .i64 0) 53)
  have z : (w.alloc (.cells #[.bool false, .slice a (dg 10 m).length c, .int .i64 e] 53)).heap.size = w.heap.size + 1 := by simp
  rw [z] at X_r F_r
  clear z
  obtain ⟨kx0, kx1, kx2⟩ := X_x.out
  go_wp2_with fail
  clear kx0 kx1 kx2
  refine (HP.out _ b1).mono ?_
  rintro r w2 ⟨xq, yq, xb, yb, lb, rfl, h1, h2, h3, h4, hc⟩
  have b2 := b1.trans (hc.mono b1.size)
  replace F_x := Qf.below F_x (Qx.lt X_x) hc
  replace X_x := Qx.below X_x hc
  replace F_r := Qf.below F_r (Qx.lt X_r) hc
  replace X_r := Qx.below X_r hc
  clear hc b1
  have R_q := Lib.hid h1
  have R_b := Lib.hid h2
  clear h1 h2
  clear h3 h4
  obtain ⟨kx0, kx1, kx2⟩ := X_x.out
  go_wp2_with fail
  clear kx0 kx1 kx2
  refine (HM.out q _ _ _ (by have := HL1.out; omega) R_q.out).mono ?_
  rintro r w3 ⟨xm, ym, rfl, h1, hc⟩
  have b3 := b2.trans (hc.mono b2.size)
  replace F_x := Qf.below F_x (Qx.lt X_x) hc
  replace X_x := Qx.below X_x hc
  replace F_r := Qf.below F_r (Qx.lt X_r) hc
  replace X_r := Qx.below X_r hc
  replace R_q := Lib.hid (R_q.out.below hc)
  replace R_b := Lib.hid (R_b.out.below hc)
  clear hc b2
  have R_m := Lib.hid h1
  clear h1
  generalize hpl : pl false (q) 0 = P at *
  have HPL := Lib.hid hpl
  clear hpl
  obtain ⟨kr0, kr1, kr2⟩ := X_r.out
  have kf_r := F_r.out
  unfold Qf at kf_r
  go_wp2
  refine bodyPost_ret (v := .agg #[.bool P.neg, .slice xm (dg 10 P.m).length ym, .int .i64 P.e]) (by simp [results, Tryz.results45, go_sem, kr0, kr1, kr2]) rfl ?_
  exact ⟨xm, ym, rfl, RdC.box R_m.out X_r (by decide) _ _ _, (Below.box b3 (g := w.heap.size + 1) (by omega) _ _ _)⟩
set_option maxHeartbeats 8000000 in
set_option maxRecDepth 20000 in
theorem Rd_2t (m : Nat) (e : Int) (a : Option Addr) (c : Nat) (w : World) (he : e < 0) (hin : inR ⟨true, m, e⟩ = true) (hr : RdC w a c m)  :
    Calls Tryz.prog 45 #[.agg #[.bool true, .slice a (dg 10 m).length c, .int .i64 e], .int .i64 2] w (ResM (pl true (m / 10 ^ plc ⟨true, m, e⟩) 0) w) := by
  have hP := fun W hb => parts_any ⟨true, m, e⟩ a c W he hin (hr.below (hb : Below w.heap.size w W))
  obtain ⟨hl1, hl2⟩ := cut_len hin
  obtain ⟨j, hj⟩ : ∃ j, plc ⟨true, m, e⟩ = j + 1 := ⟨plc ⟨true, m, e⟩ - 1, by unfold plc; simp only; omega⟩
  have hj2 : j < 20000 := by have := inR_bounds hin; unfold plc at hj; simp only at hj this; omega
  unfold ResPt at hP
  rw [hj, Nat.add_sub_cancel] at hP
  rw [hj] at hl1 hl2
  rw [hj]
  have hM := fun v x y W (hl : (dg 10 v).length ≤ 1000000) r => Make_any true x y v 0 W hl (by omega) (by omega) r
  have hA := fun x y b d W r1 r2 => add10 (m / 10 ^ (j + 1)) 1 x b y d W (Nat.le_trans hl1 (by omega)) (by rw [dg10_1]; simp) r1 r2
  generalize (⟨true, m, e⟩ : Pl).m / 10 ^ (j + 1) = q at *
  generalize (⟨true, m, e⟩ : Pl).m / 10 ^ j % 10 = dd at *
  have HP := Lib.hid hP; have HA := Lib.hid hA; have HM := Lib.hid hM; have HL1 := Lib.hid hl1; have HL2 := Lib.hid hl2
  clear hP hA hM hr hl1 hl2 hj hin
  go_enter Tryz.func45, Tryz.ntmps45
  have b1 := (((Below.refl w.heap.size w).alloc (Nat.le_refl _) (.cells #[.bool true, .slice a (dg 10 m).length c, .int .i64 e] 53)).alloc (by simp) (.cells #[.bool false, .slice none 0 0, .int .i64 0] 53))
  have X_x := (Qx.below (Qx.new w (.bool true) (.slice a (dg 10 m).length c) (.int .i64 e) 53) ((Below.refl _ _).alloc (Nat.le_refl _) (.cells #[.bool false, .slice none 0 0, .int .i64 0] 53)))
  have F_x := (Qf.below (Qf.new w (.bool true) (.slice a (dg 10 m).length c) (.int .i64 e) 53) (Qx.lt (Qx.new w (.bool true) (.slice a (dg 10 m).length c) (.int .i64 e) 53)) ((Below.refl _ _).alloc (Nat.le_refl _) (.cells #[.bool false, .slice none 0 0, .int .i64 0] 53)))
  have X_r := (Qx.new (w.alloc (.cells #[.bool true, .slice a (dg 10 m).length c, .int .i64 e] 53)) (.bool false) (.slice none 0 0) (.int .i64 0) 53)
  have F_r := (Qf.new (w.alloc (.cells #[.bool true, .slice a (dg 10 m).length c, .int .i64 e] 53)) (.bool false) (.slice none 0 0) (.int .i64 0) 53)
  have z : (w.alloc (.cells #[.bool true, .slice a (dg 10 m).length c, .int .i64 e] 53)).heap.size = w.heap.size + 1 := by simp
  rw [z] at X_r F_r
  clear z
  obtain ⟨kx0, kx1, kx2⟩ := X_x.out
  go_wp2_with fail
  clear kx0 kx1 kx2
  refine (HP.out _ b1).mono ?_
  rintro r w2 ⟨xq, yq, xb, yb, lb, rfl, h1, h2, h3, h4, hc⟩
  have b2 := b1.trans (hc.mono b1.size)
  replace F_x := Qf.below F_x (Qx.lt X_x) hc
  replace X_x := Qx.below X_x hc
  replace F_r := Qf.below F_r (Qx.lt X_r) hc
  replace X_r := Qx.below X_r hc
  clear hc b1
  have R_q := Lib.hid h1
  have R_b := Lib.hid h2
  clear h1 h2
  clear h3 h4
  obtain ⟨kx0, kx1, kx2⟩ := X_x.out
  go_wp2_with fail
  clear kx0 kx1 kx2
  refine (HM.out q _ _ _ (by have := HL1.out; omega) R_q.out).mono ?_
  rintro r w3 ⟨xm, ym, rfl, h1, hc⟩
  have b3 := b2.trans (hc.mono b2.size)
  replace F_x := Qf.below F_x (Qx.lt X_x) hc
  replace X_x := Qx.below X_x hc
  replace F_r := Qf.below F_r (Qx.lt X_r) hc
  replace X_r := Qx.below X_r hc
  replace R_q := Lib.hid (R_q.out.below hc)
  replace R_b := Lib.hid (R_b.out.below hc)
  clear hc b2
  have R_m := Lib.hid h1
  clear h1
  generalize hpl : pl true (q) 0 = P at *
  have HPL := Lib.hid hpl
  clear hpl
  obtain ⟨kr0, kr1, kr2⟩ := X_r.out
  have kf_r := F_r.out
  unfold Qf at kf_r
  go_wp2
  refine bodyPost_ret (v := .agg #[.bool P.neg, .slice xm (dg 10 P.m).length ym, .int .i64 P.e]) (by simp [results, Tryz.results45, go_sem, kr0, kr1, kr2]) rfl ?_
  exact ⟨xm, ym, rfl, RdC.box R_m.out X_r (by decide) _ _ _, (Below.box b3 (g := w.heap.size + 1) (by omega) _ _ _)⟩
set_option maxHeartbeats 8000000 in
set_option maxRecDepth 20000 in
theorem Rd_2f (m : Nat) (e : Int) (a : Option Addr) (c : Nat) (w : World) (he : e < 0) (hin : inR ⟨false, m, e⟩ = true) (hr : RdC w a c m)  :
    Calls Tryz.prog 45 #[.agg #[.bool false, .slice a (dg 10 m).length c, .int .i64 e], .int .i64 2] w (ResM (pl false (m / 10 ^ plc ⟨false, m, e⟩ + 1) 0) w) := by
  have hP := fun W hb => parts_any ⟨false, m, e⟩ a c W he hin (hr.below (hb : Below w.heap.size w W))
  obtain ⟨hl1, hl2⟩ := cut_len hin
  obtain ⟨j, hj⟩ : ∃ j, plc ⟨false, m, e⟩ = j + 1 := ⟨plc ⟨false, m, e⟩ - 1, by unfold plc; simp only; omega⟩
  have hj2 : j < 20000 := by have := inR_bounds hin; unfold plc at hj; simp only at hj this; omega
  unfold ResPt at hP
  rw [hj, Nat.add_sub_cancel] at hP
  rw [hj] at hl1 hl2
  rw [hj]
  have hM := fun v x y W (hl : (dg 10 v).length ≤ 1000000) r => Make_any false x y v 0 W hl (by omega) (by omega) r
  have hA := fun x y b d W r1 r2 => add10 (m / 10 ^ (j + 1)) 1 x b y d W (Nat.le_trans hl1 (by omega)) (by rw [dg10_1]; simp) r1 r2
  generalize (⟨false, m, e⟩ : Pl).m / 10 ^ (j + 1) = q at *
  generalize (⟨false, m, e⟩ : Pl).m / 10 ^ j % 10 = dd at *
  have HP := Lib.hid hP; have HA := Lib.hid hA; have HM := Lib.hid hM; have HL1 := Lib.hid hl1; have HL2 := Lib.hid hl2
  clear hP hA hM hr hl1 hl2 hj hin
  go_enter Tryz.func45, Tryz.ntmps45
  have b1 := (((Below.refl w.heap.size w).alloc (Nat.le_refl _) (.cells #[.bool false, .slice a (dg 10 m).length c, .int .i64 e] 53)).alloc (by simp) (.cells #[.bool false, .slice none 0 0, .int .i64 0] 53))
  have X_x := (Qx.below (Qx.new w (.bool false) (.slice a (dg 10 m).length c) (.int .i64 e) 53) ((Below.refl _ _).alloc (Nat.le_refl _) (.cells #[.bool false, .slice none 0 0, .int .i64 0] 53)))
  have F_x := (Qf.below (Qf.new w (.bool false) (.slice a (dg 10 m).length c) (.int .i64 e) 53) (Qx.lt (Qx.new w (.bool false) (.slice a (dg 10 m).length c) (.int .i64 e) 53)) ((Below.refl _ _).alloc (Nat.le_refl _) (.cells #[.bool false, .slice none 0 0, .int .i64 0] 53)))
  have X_r := (Qx.new (w.alloc (.cells #[.bool false, .slice a (dg 10 m).length c, .int .i64 e] 53)) (.bool false) (.slice none 0 0) (.int .i64 0) 53)
  have F_r := (Qf.new (w.alloc (.cells #[.bool false, .slice a (dg 10 m).length c, .int .i64 e] 53)) (.bool false) (.slice none 0 0) (.int .i64 0) 53)
  have z : (w.alloc (.cells #[.bool false, .slice a (dg 10 m).length c, .int .i64 e] 53)).heap.size = w.heap.size + 1 := by simp
  rw [z] at X_r F_r
  clear z
  obtain ⟨kx0, kx1, kx2⟩ := X_x.out
  go_wp2_with fail
  clear kx0 kx1 kx2
  refine (HP.out _ b1).mono ?_
  rintro r w2 ⟨xq, yq, xb, yb, lb, rfl, h1, h2, h3, h4, hc⟩
  have b2 := b1.trans (hc.mono b1.size)
  replace F_x := Qf.below F_x (Qx.lt X_x) hc
  replace X_x := Qx.below X_x hc
  replace F_r := Qf.below F_r (Qx.lt X_r) hc
  replace X_r := Qx.below X_r hc
  clear hc b1
  have R_q := Lib.hid h1
  have R_b := Lib.hid h2
  clear h1 h2
  clear h3 h4
  obtain ⟨kx0, kx1, kx2⟩ := X_x.out
  go_wp2_with fail
  clear kx0 kx1 kx2
  refine (one_any _).mono ?_
  rintro r w3 ⟨xo, yo, rfl, h1, hc⟩
  have b3 := b2.trans (hc.mono b2.size)
  replace F_x := Qf.below F_x (Qx.lt X_x) hc
  replace X_x := Qx.below X_x hc
  replace F_r := Qf.below F_r (Qx.lt X_r) hc
  replace X_r := Qx.below X_r hc
  replace R_q := Lib.hid (R_q.out.below hc)
  replace R_b := Lib.hid (R_b.out.below hc)
  clear hc b2
  have R_o := Lib.hid h1
  clear h1
  go_wp2_with fail
  refine (HA.out _ _ _ _ _ R_q.out R_o.out).mono ?_
  rintro r w4 ⟨xs, ys, rfl, h1, hc⟩
  have b4 := b3.trans (hc.mono b3.size)
  replace F_x := Qf.below F_x (Qx.lt X_x) hc
  replace X_x := Qx.below X_x hc
  replace F_r := Qf.below F_r (Qx.lt X_r) hc
  replace X_r := Qx.below X_r hc
  replace R_q := Lib.hid (R_q.out.below hc)
  replace R_b := Lib.hid (R_b.out.below hc)
  replace R_o := Lib.hid (R_o.out.below hc)
  clear hc b3
  have R_s := Lib.hid h1
  clear h1
  obtain ⟨kx0, kx1, kx2⟩ := X_x.out
  go_wp2_with fail
  clear kx0 kx1 kx2
  refine (HM.out (q + 1) _ _ _ (by have := HL2.out; omega) R_s.out).mono ?_
  rintro r w5 ⟨xm, ym, rfl, h1, hc⟩
  have b5 := b4.trans (hc.mono b4.size)
  replace F_x := Qf.below F_x (Qx.lt X_x) hc
  replace X_x := Qx.below X_x hc
  replace F_r := Qf.below F_r (Qx.lt X_r) hc
  replace X_r := Qx.below X_r hc
  replace R_q := Lib.hid (R_q.out.below hc)
  replace R_b := Lib.hid (R_b.out.below hc)
  replace R_o := Lib.hid (R_o.out.below hc)
  replace R_s := Lib.hid (R_s.out.below hc)
  clear hc b4
  have R_m := Lib.hid h1
  clear h1
  generalize hpl : pl false (q + 1) 0 = P at *
  have HPL := Lib.hid hpl
  clear hpl
  obtain ⟨kr0, kr1, kr2⟩ := X_r.out
  have kf_r := F_r.out
  unfold Qf at kf_r
  go_wp2
  refine bodyPost_ret (v := .agg #[.bool P.neg, .slice xm (dg 10 P.m).length ym, .int .i64 P.e]) (by simp [results, Tryz.results45, go_sem, kr0, kr1, kr2]) rfl ?_
  exact ⟨xm, ym, rfl, RdC.box R_m.out X_r (by decide) _ _ _, (Below.box b5 (g := w.heap.size + 1) (by omega) _ _ _)⟩
set_option maxHeartbeats 8000000 in
set_option maxRecDepth 20000 in
theorem Rd_3tg (m : Nat) (e : Int) (a : Option Addr) (c : Nat) (w : World) (he : e < 0) (hin : inR ⟨true, m, e⟩ = true) (hr : RdC w a c m) (h5 : 5 ≤ m / 10 ^ (plc ⟨true, m, e⟩ - 1) % 10) :
    Calls Tryz.prog 45 #[.agg #[.bool true, .slice a (dg 10 m).length c, .int .i64 e], .int .i64 3] w (ResM (pl true (m / 10 ^ plc ⟨true, m, e⟩ + 1) 0) w) := by
  have hP := fun W hb => parts_any ⟨true, m, e⟩ a c W he hin (hr.below (hb : Below w.heap.size w W))
  obtain ⟨hl1, hl2⟩ := cut_len hin
  obtain ⟨j, hj⟩ : ∃ j, plc ⟨true, m, e⟩ = j + 1 := ⟨plc ⟨true, m, e⟩ - 1, by unfold plc; simp only; omega⟩
  have hj2 : j < 20000 := by have := inR_bounds hin; unfold plc at hj; simp only at hj this; omega
  unfold ResPt at hP
  rw [hj, Nat.add_sub_cancel] at hP
  rw [hj] at hl1 hl2
  rw [hj, Nat.add_sub_cancel] at h5
  rw [hj]
  have h6 : m / 10 ^ j % 10 < 10 := Nat.mod_lt _ (by omega)
  have hM := fun v x y W (hl : (dg 10 v).length ≤ 1000000) r => Make_any true x y v 0 W hl (by omega) (by omega) r
  have hA := fun x y b d W r1 r2 => add10 (m / 10 ^ (j + 1)) 1 x b y d W (Nat.le_trans hl1 (by omega)) (by rw [dg10_1]; simp) r1 r2
  generalize (⟨true, m, e⟩ : Pl).m / 10 ^ (j + 1) = q at *
  generalize (⟨true, m, e⟩ : Pl).m / 10 ^ j % 10 = dd at *
  have HP := Lib.hid hP; have HA := Lib.hid hA; have HM := Lib.hid hM; have HL1 := Lib.hid hl1; have HL2 := Lib.hid hl2
  clear hP hA hM hr hl1 hl2 hj hin
  go_enter Tryz.func45, Tryz.ntmps45
  have b1 := (((Below.refl w.heap.size w).alloc (Nat.le_refl _) (.cells #[.bool true, .slice a (dg 10 m).length c, .int .i64 e] 53)).alloc (by simp) (.cells #[.bool false, .slice none 0 0, .int .i64 0] 53))
  have X_x := (Qx.below (Qx.new w (.bool true) (.slice a (dg 10 m).length c) (.int .i64 e) 53) ((Below.refl _ _).alloc (Nat.le_refl _) (.cells #[.bool false, .slice none 0 0, .int .i64 0] 53)))
  have F_x := (Qf.below (Qf.new w (.bool true) (.slice a (dg 10 m).length c) (.int .i64 e) 53) (Qx.lt (Qx.new w (.bool true) (.slice a (dg 10 m).length c) (.int .i64 e) 53)) ((Below.refl _ _).alloc (Nat.le_refl _) (.cells #[.bool false, .slice none 0 0, .int .i64 0] 53)))
  have X_r := (Qx.new (w.alloc (.cells #[.bool true, .slice a (dg 10 m).length c, .int .i64 e] 53)) (.bool false) (.slice none 0 0) (.int .i64 0) 53)
  have F_r := (Qf.new (w.alloc (.cells #[.bool true, .slice a (dg 10 m).length c, .int .i64 e] 53)) (.bool false) (.slice none 0 0) (.int .i64 0) 53)
  have z : (w.alloc (.cells #[.bool true, .slice a (dg 10 m).length c, .int .i64 e] 53)).heap.size = w.heap.size + 1 := by simp
  rw [z] at X_r F_r
  clear z
  obtain ⟨kx0, kx1, kx2⟩ := X_x.out
  go_wp2_with fail
  clear kx0 kx1 kx2
  refine (HP.out _ b1).mono ?_
  rintro r w2 ⟨xq, yq, xb, yb, lb, rfl, h1, h2, h3, h4, hc⟩
  have b2 := b1.trans (hc.mono b1.size)
  replace F_x := Qf.below F_x (Qx.lt X_x) hc
  replace X_x := Qx.below X_x hc
  replace F_r := Qf.below F_r (Qx.lt X_r) hc
  replace X_r := Qx.below X_r hc
  clear hc b1
  have R_q := Lib.hid h1
  have R_b := Lib.hid h2
  clear h1 h2
  obtain ⟨gb, goff, rfl, k2⟩ := R_b.out j (by omega)
  rw [h4] at k2
  rw [h3] at *
  clear h4 h3
  obtain ⟨kx0, kx1, kx2⟩ := X_x.out
  go_wp2_with fail
  clear kx0 kx1 kx2
  refine (one_any _).mono ?_
  rintro r w3 ⟨xo, yo, rfl, h1, hc⟩
  have b3 := b2.trans (hc.mono b2.size)
  replace F_x := Qf.below F_x (Qx.lt X_x) hc
  replace X_x := Qx.below X_x hc
  replace F_r := Qf.below F_r (Qx.lt X_r) hc
  replace X_r := Qx.below X_r hc
  replace R_q := Lib.hid (R_q.out.below hc)
  replace R_b := Lib.hid (R_b.out.below hc)
  clear hc b2
  have R_o := Lib.hid h1
  clear h1
  go_wp2_with fail
  refine (HA.out _ _ _ _ _ R_q.out R_o.out).mono ?_
  rintro r w4 ⟨xs, ys, rfl, h1, hc⟩
  have b4 := b3.trans (hc.mono b3.size)
  replace F_x := Qf.below F_x (Qx.lt X_x) hc
  replace X_x := Qx.below X_x hc
  replace F_r := Qf.below F_r (Qx.lt X_r) hc
  replace X_r := Qx.below X_r hc
  replace R_q := Lib.hid (R_q.out.below hc)
  replace R_b := Lib.hid (R_b.out.below hc)
  replace R_o := Lib.hid (R_o.out.below hc)
  clear hc b3
  have R_s := Lib.hid h1
  clear h1
  obtain ⟨kx0, kx1, kx2⟩ := X_x.out
  go_wp2_with fail
  clear kx0 kx1 kx2
  refine (HM.out (q + 1) _ _ _ (by have := HL2.out; omega) R_s.out).mono ?_
  rintro r w5 ⟨xm, ym, rfl, h1, hc⟩
  have b5 := b4.trans (hc.mono b4.size)
  replace F_x := Qf.below F_x (Qx.lt X_x) hc
  replace X_x := Qx.below X_x hc
  replace F_r := Qf.below F_r (Qx.lt X_r) hc
  replace X_r := Qx.below X_r hc
  replace R_q := Lib.hid (R_q.out.below hc)
  replace R_b := Lib.hid (R_b.out.below hc)
  replace R_o := Lib.hid (R_o.out.below hc)
  replace R_s := Lib.hid (R_s.out.below hc)
  clear hc b4
  have R_m := Lib.hid h1
  clear h1
  generalize hpl : pl true (q + 1) 0 = P at *
  have HPL := Lib.hid hpl
  clear hpl
  obtain ⟨kr0, kr1, kr2⟩ := X_r.out
  have kf_r := F_r.out
  unfold Qf at kf_r
  go_wp2
  refine bodyPost_ret (v := .agg #[.bool P.neg, .slice xm (dg 10 P.m).length ym, .int .i64 P.e]) (by simp [results, Tryz.results45, go_sem, kr0, kr1, kr2]) rfl ?_
  exact ⟨xm, ym, rfl, RdC.box R_m.out X_r (by decide) _ _ _, (Below.box b5 (g := w.heap.size + 1) (by omega) _ _ _)⟩
set_option maxHeartbeats 8000000 in
set_option maxRecDepth 20000 in
theorem Rd_3tl (m : Nat) (e : Int) (a : Option Addr) (c : Nat) (w : World) (he : e < 0) (hin : inR ⟨true, m, e⟩ = true) (hr : RdC w a c m) (h5 : ¬ 5 ≤ m / 10 ^ (plc ⟨true, m, e⟩ - 1) % 10) :
    Calls Tryz.prog 45 #[.agg #[.bool true, .slice a (dg 10 m).length c, .int .i64 e], .int .i64 3] w (ResM (pl true (m / 10 ^ plc ⟨true, m, e⟩) 0) w) := by
  have hP := fun W hb => parts_any ⟨true, m, e⟩ a c W he hin (hr.below (hb : Below w.heap.size w W))
  obtain ⟨hl1, hl2⟩ := cut_len hin
  obtain ⟨j, hj⟩ : ∃ j, plc ⟨true, m, e⟩ = j + 1 := ⟨plc ⟨true, m, e⟩ - 1, by unfold plc; simp only; omega⟩
  have hj2 : j < 20000 := by have := inR_bounds hin; unfold plc at hj; simp only at hj this; omega
  unfold ResPt at hP
  rw [hj, Nat.add_sub_cancel] at hP
  rw [hj] at hl1 hl2
  rw [hj, Nat.add_sub_cancel] at h5
  rw [hj]
  have h6 : m / 10 ^ j % 10 < 10 := Nat.mod_lt _ (by omega)
  have hM := fun v x y W (hl : (dg 10 v).length ≤ 1000000) r => Make_any true x y v 0 W hl (by omega) (by omega) r
  have hA := fun x y b d W r1 r2 => add10 (m / 10 ^ (j + 1)) 1 x b y d W (Nat.le_trans hl1 (by omega)) (by rw [dg10_1]; simp) r1 r2
  generalize (⟨true, m, e⟩ : Pl).m / 10 ^ (j + 1) = q at *
  generalize (⟨true, m, e⟩ : Pl).m / 10 ^ j % 10 = dd at *
  have HP := Lib.hid hP; have HA := Lib.hid hA; have HM := Lib.hid hM; have HL1 := Lib.hid hl1; have HL2 := Lib.hid hl2
  clear hP hA hM hr hl1 hl2 hj hin
  go_enter Tryz.func45, Tryz.ntmps45
  have b1 := (((Below.refl w.heap.size w).alloc (Nat.le_refl _) (.cells #[.bool true, .slice a (dg 10 m).length c, .int .i64 e] 53)).alloc (by simp) (.cells #[.bool false, .slice none 0 0, .int .i64 0] 53))
  have X_x := (Qx.below (Qx.new w (.bool true) (.slice a (dg 10 m).length c) (.int .i64 e) 53) ((Below.refl _ _).alloc (Nat.le_refl _) (.cells #[.bool false, .slice none 0 0, .int .i64 0] 53)))
  have F_x := (Qf.below (Qf.new w (.bool true) (.slice a (dg 10 m).length c) (.int .i64 e) 53) (Qx.lt (Qx.new w (.bool true) (.slice a (dg 10 m).length c) (.int .i64 e) 53)) ((Below.refl _ _).alloc (Nat.le_refl _) (.cells #[.bool false, .slice none 0 0, .int .i64 0] 53)))
  have X_r := (Qx.new (w.alloc (.cells #[.bool true, .slice a (dg 10 m).length c, .int .i64 e] 53)) (.bool false) (.slice none 0 0) (.int .i64 0) 53)
  have F_r := (Qf.new (w.alloc (.cells #[.bool true, .slice a (dg 10 m).length c, .int .i64 e] 53)) (.bool false) (.slice none 0 0) (.int .i64 0) 53)
  have z : (w.alloc (.cells #[.bool true, .slice a (dg 10 m).length c, .int .i64 e] 53)).heap.size = w.heap.size + 1 := by simp
  rw [z] at X_r F_r
  clear z
  obtain ⟨kx0, kx1, kx2⟩ := X_x.out
  go_wp2_with fail
  clear kx0 kx1 kx2
  refine (HP.out _ b1).mono ?_
  rintro r w2 ⟨xq, yq, xb, yb, lb, rfl, h1, h2, h3, h4, hc⟩
  have b2 := b1.trans (hc.mono b1.size)
  replace F_x := Qf.below F_x (Qx.lt X_x) hc
  replace X_x := Qx.below X_x hc
  replace F_r := Qf.below F_r (Qx.lt X_r) hc
  replace X_r := Qx.below X_r hc
  clear hc b1
  have R_q := Lib.hid h1
  have R_b := Lib.hid h2
  clear h1 h2
  obtain ⟨gb, goff, rfl, k2⟩ := R_b.out j (by omega)
  rw [h4] at k2
  rw [h3] at *
  clear h4 h3
  obtain ⟨kx0, kx1, kx2⟩ := X_x.out
  go_wp2_with fail
  clear kx0 kx1 kx2
  refine (HM.out q _ _ _ (by have := HL1.out; omega) R_q.out).mono ?_
  rintro r w3 ⟨xm, ym, rfl, h1, hc⟩
  have b3 := b2.trans (hc.mono b2.size)
  replace F_x := Qf.below F_x (Qx.lt X_x) hc
  replace X_x := Qx.below X_x hc
  replace F_r := Qf.below F_r (Qx.lt X_r) hc
  replace X_r := Qx.below X_r hc
  replace R_q := Lib.hid (R_q.out.below hc)
  replace R_b := Lib.hid (R_b.out.below hc)
  clear hc b2
  have R_m := Lib.hid h1
  clear h1
  generalize hpl : pl true (q) 0 = P at *
  have HPL := Lib.hid hpl
  clear hpl
  obtain ⟨kr0, kr1, kr2⟩ := X_r.out
  have kf_r := F_r.out
  unfold Qf at kf_r
  go_wp2
  refine bodyPost_ret (v := .agg #[.bool P.neg, .slice xm (dg 10 P.m).length ym, .int .i64 P.e]) (by simp [results, Tryz.results45, go_sem, kr0, kr1, kr2]) rfl ?_
  exact ⟨xm, ym, rfl, RdC.box R_m.out X_r (by decide) _ _ _, (Below.box b3 (g := w.heap.size + 1) (by omega) _ _ _)⟩
set_option maxHeartbeats 8000000 in
set_option maxRecDepth 20000 in
theorem Rd_3fg (m : Nat) (e : Int) (a : Option Addr) (c : Nat) (w : World) (he : e < 0) (hin : inR ⟨false, m, e⟩ = true) (hr : RdC w a c m) (h5 : 5 ≤ m / 10 ^ (plc ⟨false, m, e⟩ - 1) % 10) :
    Calls Tryz.prog 45 #[.agg #[.bool false, .slice a (dg 10 m).length c, .int .i64 e], .int .i64 3] w (ResM (pl false (m / 10 ^ plc ⟨false, m, e⟩ + 1) 0) w) := by
  have hP := fun W hb => parts_any ⟨false, m, e⟩ a c W he hin (hr.below (hb : Below w.heap.size w W))
  obtain ⟨hl1, hl2⟩ := cut_len hin
  obtain ⟨j, hj⟩ : ∃ j, plc ⟨false, m, e⟩ = j + 1 := ⟨plc ⟨false, m, e⟩ - 1, by unfold plc; simp only; omega⟩
  have hj2 : j < 20000 := by have := inR_bounds hin; unfold plc at hj; simp only at hj this; omega
  unfold ResPt at hP
  rw [hj, Nat.add_sub_cancel] at hP
  rw [hj] at hl1 hl2
  rw [hj, Nat.add_sub_cancel] at h5
  rw [hj]
  have h6 : m / 10 ^ j % 10 < 10 := Nat.mod_lt _ (by omega)
  have hM := fun v x y W (hl : (dg 10 v).length ≤ 1000000) r => Make_any false x y v 0 W hl (by omega) (by omega) r
  have hA := fun x y b d W r1 r2 => add10 (m / 10 ^ (j + 1)) 1 x b y d W (Nat.le_trans hl1 (by omega)) (by rw [dg10_1]; simp) r1 r2
  generalize (⟨false, m, e⟩ : Pl).m / 10 ^ (j + 1) = q at *
  generalize (⟨false, m, e⟩ : Pl).m / 10 ^ j % 10 = dd at *
  have HP := Lib.hid hP; have HA := Lib.hid hA; have HM := Lib.hid hM; have HL1 := Lib.hid hl1; have HL2 := Lib.hid hl2
  clear hP hA hM hr hl1 hl2 hj hin
  go_enter Tryz.func45, Tryz.ntmps45
  have b1 := (((Below.refl w.heap.size w).alloc (Nat.le_refl _) (.cells #[.bool false, .slice a (dg 10 m).length c, .int .i64 e] 53)).alloc (by simp) (.cells #[.bool false, .slice none 0 0, .int .i64 0] 53))
  have X_x := (Qx.below (Qx.new w (.bool false) (.slice a (dg 10 m).length c) (.int .i64 e) 53) ((Below.refl _ _).alloc (Nat.le_refl _) (.cells #[.bool false, .slice none 0 0, .int .i64 0] 53)))
  have F_x := (Qf.below (Qf.new w (.bool false) (.slice a (dg 10 m).length c) (.int .i64 e) 53) (Qx.lt (Qx.new w (.bool false) (.slice a (dg 10 m).length c) (.int .i64 e) 53)) ((Below.refl _ _).alloc (Nat.le_refl _) (.cells #[.bool false, .slice none 0 0, .int .i64 0] 53)))
  have X_r := (Qx.new (w.alloc (.cells #[.bool false, .slice a (dg 10 m).length c, .int .i64 e] 53)) (.bool false) (.slice none 0 0) (.int .i64 0) 53)
  have F_r := (Qf.new (w.alloc (.cells #[.bool false, .slice a (dg 10 m).length c, .int .i64 e] 53)) (.bool false) (.slice none 0 0) (.int .i64 0) 53)
  have z : (w.alloc (.cells #[.bool false, .slice a (dg 10 m).length c, .int .i64 e] 53)).heap.size = w.heap.size + 1 := by simp
  rw [z] at X_r F_r
  clear z
  obtain ⟨kx0, kx1, kx2⟩ := X_x.out
  go_wp2_with fail
  clear kx0 kx1 kx2
  refine (HP.out _ b1).mono ?_
  rintro r w2 ⟨xq, yq, xb, yb, lb, rfl, h1, h2, h3, h4, hc⟩
  have b2 := b1.trans (hc.mono b1.size)
  replace F_x := Qf.below F_x (Qx.lt X_x) hc
  replace X_x := Qx.below X_x hc
  replace F_r := Qf.below F_r (Qx.lt X_r) hc
  replace X_r := Qx.below X_r hc
  clear hc b1
  have R_q := Lib.hid h1
  have R_b := Lib.hid h2
  clear h1 h2
  obtain ⟨gb, goff, rfl, k2⟩ := R_b.out j (by omega)
  rw [h4] at k2
  rw [h3] at *
  clear h4 h3
  obtain ⟨kx0, kx1, kx2⟩ := X_x.out
  go_wp2_with fail
  clear kx0 kx1 kx2
  refine (one_any _).mono ?_
  rintro r w3 ⟨xo, yo, rfl, h1, hc⟩
  have b3 := b2.trans (hc.mono b2.size)
  replace F_x := Qf.below F_x (Qx.lt X_x) hc
  replace X_x := Qx.below X_x hc
  replace F_r := Qf.below F_r (Qx.lt X_r) hc
  replace X_r := Qx.below X_r hc
  replace R_q := Lib.hid (R_q.out.below hc)
  replace R_b := Lib.hid (R_b.out.below hc)
  clear hc b2
  have R_o := Lib.hid h1
  clear h1
  go_wp2_with fail
  refine (HA.out _ _ _ _ _ R_q.out R_o.out).mono ?_
  rintro r w4 ⟨xs, ys, rfl, h1, hc⟩
  have b4 := b3.trans (hc.mono b3.size)
  replace F_x := Qf.below F_x (Qx.lt X_x) hc
  replace X_x := Qx.below X_x hc
  replace F_r := Qf.below F_r (Qx.lt X_r) hc
  replace X_r := Qx.below X_r hc
  replace R_q := Lib.hid (R_q.out.below hc)
  replace R_b := Lib.hid (R_b.out.below hc)
  replace R_o := Lib.hid (R_o.out.below hc)
  clear hc b3
  have R_s := Lib.hid h1
  clear h1
  obtain ⟨kx0, kx1, kx2⟩ := X_x.out
  go_wp2_with fail
  clear kx0 kx1 kx2
  refine (HM.out (q + 1) _ _ _ (by have := HL2.out; omega) R_s.out).mono ?_
  rintro r w5 ⟨xm, ym, rfl, h1, hc⟩
  have b5 := b4.trans (hc.mono b4.size)
  replace F_x := Qf.below F_x (Qx.lt X_x) hc
  replace X_x := Qx.below X_x hc
  replace F_r := Qf.below F_r (Qx.lt X_r) hc
  replace X_r := Qx.below X_r hc
  replace R_q := Lib.hid (R_q.out.below hc)
  replace R_b := Lib.hid (R_b.out.below hc)
  replace R_o := Lib.hid (R_o.out.below hc)
  replace R_s := Lib.hid (R_s.out.below hc)
  clear hc b4
  have R_m := Lib.hid h1
  clear h1
  generalize hpl : pl false (q + 1) 0 = P at *
  have HPL := Lib.hid hpl
  clear hpl
  obtain ⟨kr0, kr1, kr2⟩ := X_r.out
  have kf_r := F_r.out
  unfold Qf at kf_r
  go_wp2
  refine bodyPost_ret (v := .agg #[.bool P.neg, .slice xm (dg 10 P.m).length ym, .int .i64 P.e]) (by simp [results, Tryz.results45, go_sem, kr0, kr1, kr2]) rfl ?_
  exact ⟨xm, ym, rfl, RdC.box R_m.out X_r (by decide) _ _ _, (Below.box b5 (g := w.heap.size + 1) (by omega) _ _ _)⟩
set_option maxHeartbeats 8000000 in
set_option maxRecDepth 20000 in
theorem Rd_3fl (m : Nat) (e : Int) (a : Option Addr) (c : Nat) (w : World) (he : e < 0) (hin : inR ⟨false, m, e⟩ = true) (hr : RdC w a c m) (h5 : ¬ 5 ≤ m / 10 ^ (plc ⟨false, m, e⟩ - 1) % 10) :
    Calls Tryz.prog 45 #[.agg #[.bool false, .slice a (dg 10 m).length c, .int .i64 e], .int .i64 3] w (ResM (pl false (m / 10 ^ plc ⟨false, m, e⟩) 0) w) := by
  have hP := fun W hb => parts_any ⟨false, m, e⟩ a c W he hin (hr.below (hb : Below w.heap.size w W))
  obtain ⟨hl1, hl2⟩ := cut_len hin
  obtain ⟨j, hj⟩ : ∃ j, plc ⟨false, m, e⟩ = j + 1 := ⟨plc ⟨false, m, e⟩ - 1, by unfold plc; simp only; omega⟩
  have hj2 : j < 20000 := by have := inR_bounds hin; unfold plc at hj; simp only at hj this; omega
  unfold ResPt at hP
  rw [hj, Nat.add_sub_cancel] at hP
  rw [hj] at hl1 hl2
  rw [hj, Nat.add_sub_cancel] at h5
  rw [hj]
  have h6 : m / 10 ^ j % 10 < 10 := Nat.mod_lt _ (by omega)
  have hM := fun v x y W (hl : (dg 10 v).length ≤ 1000000) r => Make_any false x y v 0 W hl (by omega) (by omega) r
  have hA := fun x y b d W r1 r2 => add10 (m / 10 ^ (j + 1)) 1 x b y d W (Nat.le_trans hl1 (by omega)) (by rw [dg10_1]; simp) r1 r2
  generalize (⟨false, m, e⟩ : Pl).m / 10 ^ (j + 1) = q at *
  generalize (⟨false, m, e⟩ : Pl).m / 10 ^ j % 10 = dd at *
  have HP := Lib.hid hP; have HA := Lib.hid hA; have HM := Lib.hid hM; have HL1 := Lib.hid hl1; have HL2 := Lib.hid hl2
  clear hP hA hM hr hl1 hl2 hj hin
  go_enter Tryz.func45, Tryz.ntmps45
  have b1 := (((Below.refl w.heap.size w).alloc (Nat.le_refl _) (.cells #[.bool false, .slice a (dg 10 m).length c, .int .i64 e] 53)).alloc (by simp) (.cells #[.bool false, .slice none 0 0, .int .i64 0] 53))
  have X_x := (Qx.below (Qx.new w (.bool false) (.slice a (dg 10 m).length c) (.int .i64 e) 53) ((Below.refl _ _).alloc (Nat.le_refl _) (.cells #[.bool false, .slice none 0 0, .int .i64 0] 53)))
  have F_x := (Qf.below (Qf.new w (.bool false) (.slice a (dg 10 m).length c) (.int .i64 e) 53) (Qx.lt (Qx.new w (.bool false) (.slice a (dg 10 m).length c) (.int .i64 e) 53)) ((Below.refl _ _).alloc (Nat.le_refl _) (.cells #[.bool false, .slice none 0 0, .int .i64 0] 53)))
  have X_r := (Qx.new (w.alloc (.cells #[.bool false, .slice a (dg 10 m).length c, .int .i64 e] 53)) (.bool false) (.slice none 0 0) (.int .i64 0) 53)
  have F_r := (Qf.new (w.alloc (.cells #[.bool false, .slice a (dg 10 m).length c, .int .i64 e] 53)) (.bool false) (.slice none 0 0) (.int .i64 0) 53)
  have z : (w.alloc (.cells #[.bool false, .slice a (dg 10 m).length c, .int .i64 e] 53)).heap.size = w.heap.size + 1 := by simp
  rw [z] at X_r F_r
  clear z
  obtain ⟨kx0, kx1, kx2⟩ := X_x.out
  go_wp2_with fail
  clear kx0 kx1 kx2
  refine (HP.out _ b1).mono ?_
  rintro r w2 ⟨xq, yq, xb, yb, lb, rfl, h1, h2, h3, h4, hc⟩
  have b2 := b1.trans (hc.mono b1.size)
  replace F_x := Qf.below F_x (Qx.lt X_x) hc
  replace X_x := Qx.below X_x hc
  replace F_r := Qf.below F_r (Qx.lt X_r) hc
  replace X_r := Qx.below X_r hc
  clear hc b1
  have R_q := Lib.hid h1
  have R_b := Lib.hid h2
  clear h1 h2
  obtain ⟨gb, goff, rfl, k2⟩ := R_b.out j (by omega)
  rw [h4] at k2
  rw [h3] at *
  clear h4 h3
  obtain ⟨kx0, kx1, kx2⟩ := X_x.out
  go_wp2_with fail
  clear kx0 kx1 kx2
  refine (HM.out q _ _ _ (by have := HL1.out; omega) R_q.out).mono ?_
  rintro r w3 ⟨xm, ym, rfl, h1, hc⟩
  have b3 := b2.trans (hc.mono b2.size)
  replace F_x := Qf.below F_x (Qx.lt X_x) hc
  replace X_x := Qx.below X_x hc
  replace F_r := Qf.below F_r (Qx.lt X_r) hc
  replace X_r := Qx.below X_r hc
  replace R_q := Lib.hid (R_q.out.below hc)
  replace R_b := Lib.hid (R_b.out.below hc)
  clear hc b2
  have R_m := Lib.hid h1
  clear h1
  generalize hpl : pl false (q) 0 = P at *
  have HPL := Lib.hid hpl
  clear hpl
  obtain ⟨kr0, kr1, kr2⟩ := X_r.out
  have kf_r := F_r.out
  unfold Qf at kf_r
  go_wp2
  refine bodyPost_ret (v := .agg #[.bool P.neg, .slice xm (dg 10 P.m).length ym, .int .i64 P.e]) (by simp [results, Tryz.results45, go_sem, kr0, kr1, kr2]) rfl ?_
  exact ⟨xm, ym, rfl, RdC.box R_m.out X_r (by decide) _ _ _, (Below.box b3 (g := w.heap.size + 1) (by omega) _ _ _)⟩
end Go.Proofs.YtimfpgpomafflaaGreatDoor
