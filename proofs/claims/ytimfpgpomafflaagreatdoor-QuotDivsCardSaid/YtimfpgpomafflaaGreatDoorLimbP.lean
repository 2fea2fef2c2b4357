/- Walks: DivMod. -/
import Derived.Test.YtimfpgpomafflaaGreatDoorLimbO
namespace Go.Proofs.YtimfpgpomafflaaGreatDoor
open Go.RowKit LM Go.Shelf

set_option maxHeartbeats 2000000 in
theorem DivMod_zero (a b : Option Addr) (ca cb : Nat) (l m : List Nat) (w : World) (hl : l.length ≤ 1073741824) (hm : m.length ≤ 1073741824) (hlo : Lo 4294967296 l) (hmo : Lo 4294967296 m) (ha : Rd w .u32 a l) (hb : Rd w .u32 b m) (h0 : vl 1000000000 m = 0) :
    Calls Tryz.prog 43 #[.slice a l.length ca, .slice b m.length cb] w fun e w' => e = .returned (.tuple #[.slice none 0 0, .slice none 0 0, .int .i64 4]) ∧ Below w.heap.size w w' := by
  have HLO := Lib.hid hlo; have HMO := Lib.hid hmo; have H0 := Lib.hid h0
  clear hlo hmo h0
  go_enter Tryz.func43, Tryz.ntmps43
  go_wp2_with fail
  refine (Norm_any a ca l w (by omega) HLO.out ha).mono ?_
  rintro e w1 ⟨a1, c1, rfl, hown1, hb1⟩
  have hN := Norm_any b cb m w1 (by omega) HMO.out (hb.below hb1)
  rw [H0.out, dg_zero, List.length_nil] at hN
  have HN := Lib.hid hN
  have hbl := hb1
  clear hN hown1
  go_wp2_with fail
  refine HN.out.mono ?_
  rintro e w2 ⟨a2, c2, rfl, hown2, hb2⟩
  go_wp2
  go_ret3
  exact ⟨rfl, hb1.trans (hb2.mono hb1.size)⟩

theorem dg_head {n : Nat} (h : 0 < n) : ∃ k, (dg 1000000000 n).length = k + 1 := ⟨(dg 1000000000 n).length - 1, by have : (dg 1000000000 n).length ≠ 0 := (by rw [dg_pos (by omega) h]; simp); omega⟩

set_option maxHeartbeats 2000000 in
theorem DivMod_short (a b : Option Addr) (ca cb : Nat) (l m : List Nat) (w : World) (hl : l.length ≤ 1073741824) (hm : m.length ≤ 1073741824) (hlo : Lo 4294967296 l) (hmo : Lo 4294967296 m) (ha : Rd w .u32 a l) (hb : Rd w .u32 b m)
    (h0 : (dg 1000000000 (vl 1000000000 l)).length < (dg 1000000000 (vl 1000000000 m)).length) :
    Calls Tryz.prog 43 #[.slice a l.length ca, .slice b m.length cb] w fun e w' => ∃ a1 c1 a2 c2, e = .returned (.tuple #[.slice a1 (dg 1000000000 (vl 1000000000 l / vl 1000000000 m)).length c1, .slice a2 (dg 1000000000 (vl 1000000000 l % vl 1000000000 m)).length c2, .int .i64 0]) ∧
      Own w' w.heap.size 40 .u32 a1 c1 (dg 1000000000 (vl 1000000000 l / vl 1000000000 m)) ∧ Own w' w.heap.size 40 .u32 a2 c2 (dg 1000000000 (vl 1000000000 l % vl 1000000000 m)) ∧ Below w.heap.size w w' := by
  have hvlt := dg_len_lt (b := 1000000000) (by omega) h0
  have hq : dg 1000000000 (vl 1000000000 l / vl 1000000000 m) = [] := by rw [Nat.div_eq_of_lt hvlt, dg_zero]
  have hr : dg 1000000000 (vl 1000000000 l % vl 1000000000 m) = dg 1000000000 (vl 1000000000 l) := by rw [Nat.mod_eq_of_lt hvlt]
  have hn1 := nlen hlo
  have hn2 := nlen hmo
  have HLO := Lib.hid hlo; have HMO := Lib.hid hmo; have HQ := Lib.hid hq; have HR := Lib.hid hr
  clear hlo hmo hq hr hvlt
  go_enter Tryz.func43, Tryz.ntmps43
  go_wp2_with fail
  refine (Norm_any a ca l w (by omega) HLO.out ha).mono ?_
  rintro e w1 ⟨a1, c1, rfl, hown1, hb1⟩
  go_wp2_with fail
  refine (Norm_any b cb m w1 (by omega) HMO.out (hb.below hb1)).mono ?_
  rintro e w2 ⟨a2, c2, rfl, hown2, hb2⟩
  have hown3 := hown1.below hb2
  have hbl := hb1.trans (hb2.mono hb1.size)
  have hne : ¬ (dg 1000000000 (vl 1000000000 m)).length = 0 := by omega
  clear hown1 hown2 hb1 hb2 ha hb
  go_wp2
  go_ret3
  exact ⟨none, 0, a1, c1, by rw [HQ.out, HR.out]; rfl, by rw [HQ.out]; exact Own.nilNone _ _ _ _, by rw [HR.out]; exact hown3, hbl⟩

set_option maxHeartbeats 16000000 in
set_option maxRecDepth 100000 in
theorem DivMod_any (T : Nat) (HD : DivP T) (a b : Option Addr) (ca cb : Nat) (l m : List Nat) (w : World) (hl : l.length ≤ 1073741824) (hm : m.length ≤ 1073741824) (hlo : Lo 4294967296 l) (hmo : Lo 4294967296 m) (ha : Rd w .u32 a l) (hb : Rd w .u32 b m)
    (n : Nat) (hYn : (dg 1000000000 (vl 1000000000 m)).length = n + 1) (h0 : (dg 1000000000 (vl 1000000000 m)).length ≤ (dg 1000000000 (vl 1000000000 l)).length) (hT : 60000000 ≤ T ∨ (dg 1000000000 (vl 1000000000 m))[n]?.getD 0 ≤ 15) :
    Calls Tryz.prog 43 #[.slice a l.length ca, .slice b m.length cb] w fun e w' => ∃ a1 c1 a2 c2, e = .returned (.tuple #[.slice a1 (dg 1000000000 (vl 1000000000 l / vl 1000000000 m)).length c1, .slice a2 (dg 1000000000 (vl 1000000000 l % vl 1000000000 m)).length c2, .int .i64 0]) ∧
      Own w' w.heap.size 40 .u32 a1 c1 (dg 1000000000 (vl 1000000000 l / vl 1000000000 m)) ∧ Own w' w.heap.size 40 .u32 a2 c2 (dg 1000000000 (vl 1000000000 l % vl 1000000000 m)) ∧ Below w.heap.size w w' := by
  have hn1 := nlen hlo
  have hn2 := nlen hmo
  have htop := dg_top hYn
  have hlx := Lo_dg (b := 1000000000) (by omega) (vl 1000000000 l)
  have hly := Lo_dg (b := 1000000000) (by omega) (vl 1000000000 m)
  have hvx := vl_dg (b := 1000000000) (by omega) (vl 1000000000 l)
  have hvy := vl_dg (b := 1000000000) (by omega) (vl 1000000000 m)
  have HLO := Lib.hid hlo; have HMO := Lib.hid hmo; have HTOP := Lib.hid htop; have HLX := Lib.hid hlx; have HLY := Lib.hid hly; have HVX := Lib.hid hvx; have HVY := Lib.hid hvy; have HTT := Lib.hid hT; have HDD := Lib.hid HD
  have HYN := Lib.hid hYn
  clear hlo hmo htop hlx hly hvx hvy hT HD
  go_enter Tryz.func43, Tryz.ntmps43
  go_wp2_with fail
  refine (Norm_any a ca l w (by omega) HLO.out ha).mono ?_
  rintro e w1 ⟨a1, c1, rfl, hown1, hb1⟩
  go_wp2_with fail
  refine (Norm_any b cb m w1 (by omega) HMO.out (hb.below hb1)).mono ?_
  rintro e w2 ⟨a2, c2, rfl, hown2, hb2⟩
  rw [hYn]
  rw [hYn] at h0 hn2
  have hown3 := hown1.below hb2
  have hbl := hb1.trans (hb2.mono hb1.size)
  have hB2 := hbl.size
  have hry2 := hown2.rd
  have haY : ∀ g, g < w1.heap.size → Apart a2 g := fun g hg => hown2.apart hg
  have haY2 : ∀ g, w2.heap.size ≤ g → Apart a2 g := by
    intro g hg b off e
    rcases hown2.shape with ⟨h, _⟩ | ⟨g', h, _, h2, _⟩
    · rw [h] at e; cases e
    · rw [h] at e; simp at e; omega
  have hxs := hown1.shape
  have HRY2 := Lib.hid hry2; have HAY := Lib.hid haY; have HAY2 := Lib.hid haY2
  clear hown1 hown2 hb1 hb2 ha hb hry2 haY haY2 hYn
  generalize dg 1000000000 (vl 1000000000 l) = X at *
  generalize dg 1000000000 (vl 1000000000 m) = Y at *
  rcases hxs with ⟨_, _, hxn⟩ | ⟨gX, hgX, hgXB, hgXl, hxc, hcm⟩
  · exfalso; subst hxn; simp at h0
  subst hgX
  go_wp2_with (at_make; refine wp_make _ rfl _ _ 22 rfl w2.heap.size 40 .u32 4 Tryz.underlying22 infoU32 _ _ _ _ (X.length - n) rfl rfl (by omega) (by omega) (by omega) (by unfold maxLen; omega) (Nat.le_refl _) ?_)
  intro w3 hownQ hb3
  have hgl3 : gX < w2.heap.size := by have := hown3.ge.2; exact this
  have hown4 := hown3.below hb3
  have hb3s := hb3.size
  clear hown3
  go_wp2_with (at_builtin; refine wp_pushLies w3 rfl _ _ 22 rfl w.heap.size 40 .u32 4 Tryz.underlying22 infoU32 gX c1 X.length X rfl rfl _ 0 rfl _ rfl hown4 (by omega) (by unfold maxLen; omega) (by omega) ?_)
  intro g c4 w4 hownR hb4 hgr4 hgg
  have hgQ : w2.heap.size < w3.heap.size := hownQ.ge.2
  have hK1 : X.length - n + n = X.length := by omega
  have hQap : Apart (some (⟨w2.heap.size, 0, none⟩ : Addr)) gX := by intro b off e; simp at e; omega
  have hownQ4 := (hownQ.gb hgr4 hQap).mono hB2
  have hry4 := (HRY2.out.below hb3).gb hgr4 (HAY.out gX hgXl)
  have hapYg : Apart a2 g := by
    rcases hgg with h | h
    · subst h; exact HAY.out _ hgXl
    · exact HAY2.out _ (by omega)
  have hapYQ : Apart a2 w2.heap.size := HAY2.out _ (Nat.le_refl _)
  have hgne : g ≠ w2.heap.size := by omega
  have hgB : w.heap.size ≤ g := hownR.ge.1
  have hc4 := hownR.cap.1
  rw [List.length_append, List.length_singleton] at hc4
  have hbl4 : Below w.heap.size w w4 := hbl.trans ((hb3.mono hB2).trans hb4)
  have hstart := div_start HYN.out HLX.out h0 HTOP.out
  have hYpos : 0 < vl 1000000000 Y := by omega
  have hval0 : vl 1000000000 X = vl 1000000000 (X ++ [0]) + vl 1000000000 Y * (1000000000 ^ (X.length - n) * vl 1000000000 []) := by
    rw [vl_append, vl_one, vl_nil, Nat.mul_zero, Nat.mul_zero, Nat.mul_zero, Nat.add_zero]
  have hQg : Apart (some (⟨w2.heap.size, 0, none⟩ : Addr)) g := by intro b off e; simp at e; omega
  have hRQ : Apart (some (⟨g, 0, none⟩ : Addr)) w2.heap.size := by intro b off e; simp at e; omega
  have HAYg := Lib.hid hapYg; have HAYQ := Lib.hid hapYQ; have HST := Lib.hid hstart; have HYP := Lib.hid hYpos; have HV0 := Lib.hid hval0; have HQG := Lib.hid hQg; have HRQ := Lib.hid hRQ
  clear hownQ hb3 hb4 hgr4 hgg hQap hapYg hapYQ hown4 hstart hYpos hval0 hQg hRQ hbl
  generalize w2.heap.size = gQ at *
  go_wp2_with fail
  go_loopw [40] (fun i wr => ∃ (j : Nat) (R D : List Nat), j ≤ X.length - n ∧ i = .int .i64 j ∧ Hid (R.length = X.length + 1) ∧ Hid (Lo 1000000000 R) ∧ Hid (D.length = j) ∧ Hid (Lo 1000000000 D) ∧
      Hid (vl 1000000000 (R.drop (X.length - n - j)) < vl 1000000000 Y) ∧ Hid (vl 1000000000 X = vl 1000000000 R + vl 1000000000 Y * (1000000000 ^ (X.length - n - j) * vl 1000000000 D)) ∧
      Own wr w.heap.size 40 .u32 (some ⟨g, 0, none⟩) c4 R ∧ Own wr w.heap.size 40 .u32 (some ⟨gQ, 0, none⟩) (X.length - n) (List.replicate (X.length - n - j) 0 ++ D) ∧ Rd wr .u32 a2 Y ∧ Below w.heap.size w wr) (fun i _ => X.length - n - (intOf i).toNat)
  case atStart => exact ⟨0, X ++ [0], [], Nat.zero_le _, rfl, Lib.hid (show (X ++ [0]).length = X.length + 1 by simp), (Lo_append HLX.out (Lo_one (by omega)) : Lo 1000000000 (X ++ [0])), (rfl : ([] : List Nat).length = 0), Lo_nil _, HST.out, HV0.out, hownR, by rw [Nat.sub_zero, List.append_nil]; exact hownQ4, hry4, hbl4⟩
  case round =>
    obtain ⟨j, R, D, hj, rfl, HRL, HRLo, HDL, HDLo, HR, HV, hownr, hownq, hryr, hblr⟩ := hrel
    by_cases hlt : j < X.length - n
    · have hrl := HRL.out
      have hyn := HYN.out
      have hdl0 := HDL.out
      obtain ⟨p, hp⟩ : ∃ p, p = X.length - n - 1 - j := ⟨_, rfl⟩
      have hpj : X.length - n - j = p + 1 := by omega
      have hpj2 : X.length - n - (j + 1) = p := by omega
      have hpR : p + n + 2 ≤ R.length := by omega
      have hpc : p + n + 2 ≤ c4 := by omega
      have hrlt := HR.out
      have hval := HV.out
      rw [hpj] at hrlt hval hownq
      have hwlt := win_lt hyn HLY.out HRLo.out (by omega) hrlt
      have hwlo := Lo_window (p := p) (m := n + 1 + 1) HRLo.out
      have hdr := fun d => div_round (X := X) (D := D) (d := d) (p := p) hyn HYP.out HLY.out HRLo.out (by omega) hrlt hval
      have hrdw : Rd wr .u32 (some ⟨g, p, none⟩) ((R.drop p).take (n + 1 + 1)) := by
        refine Rd.mk fun k hk => ?_
        rw [window_get (by simp at hk; omega)]
        exact hownr.cell _ (by simp at hk; omega)
      obtain ⟨W, hWe⟩ : ∃ W, W = (R.drop p).take (n + 1 + 1) := ⟨_, rfl⟩
      have hwl : W.length = n + 2 := by rw [hWe]; simp; omega
      rw [← hWe] at hwlt hwlo hrdw
      have hq : vl 1000000000 W / vl 1000000000 Y < 1000000000 := by rw [Nat.div_lt_iff_lt_mul HYP.out]; exact hwlt
      have hle : vl 1000000000 W / vl 1000000000 Y * vl 1000000000 Y ≤ vl 1000000000 W := Nat.div_mul_le_self _ _
      have hTI := timesIn_any T HDD.out a2 (some ⟨g, p, none⟩) c2 (c4 - p) n Y W wr hyn hwl (by omega) HLY.out hwlo hryr hrdw HTOP.out hwlt HTT.out
      obtain ⟨q, hqe⟩ : ∃ q, q = vl 1000000000 W / vl 1000000000 Y := ⟨_, rfl⟩
      rw [← hqe] at hTI hq hle
      have hdr2 : ∀ d : List Nat, d.length = n + 2 → vl 1000000000 d = vl 1000000000 W - q * vl 1000000000 Y →
          vl 1000000000 ((win R d p).drop p) < vl 1000000000 Y ∧ vl 1000000000 X = vl 1000000000 (win R d p) + vl 1000000000 Y * (1000000000 ^ p * vl 1000000000 (q :: D)) := by
        intro d h1 h2
        have h3 := hdr d h1
        rw [← hWe, ← hqe] at h3
        exact (h3 h2).2
      have hTO : ∀ w5, Own w5 w.heap.size 40 .u32 (some ⟨g, 0, none⟩) c4 R → Rd w5 .u32 a2 Y →
          Calls Tryz.prog 80 #[.slice (some ⟨g, p, none⟩) (n + 2) (c4 - p), .slice a2 (n + 1) c2, .int .u64 q] w5 fun e w' => e = .returned (.tuple #[]) ∧ ∃ d : List Nat, d.length = n + 2 ∧ Lo 1000000000 d ∧
            vl 1000000000 d = vl 1000000000 W - q * vl 1000000000 Y ∧ Own w' w.heap.size 40 .u32 (some ⟨g, 0, none⟩) c4 (win R d p) ∧ w5.grownBy w' (some g) := by
        intro w5 ho hr
        have h := takeOff_any w.heap.size g c4 p (n + 1 + 1) (c4 - p) c2 q a2 R Y w5 ho (by omega) (by omega) (by omega) HLY.out (by rw [← hWe]; exact hwlo) (by omega) hr HAYg.out (by rw [← hWe]; exact hle)
        rw [← hWe, hyn] at h
        exact h
      have HTI := Lib.hid hTI; have HTO := Lib.hid hTO; have HDR := Lib.hid hdr2; have HPJ2 := Lib.hid hpj2; have HQE := Lib.hid hqe
      have hpI : ((X.length - n : Nat) : Int) - 1 - (j : Int) = (p : Int) := by omega
      have hpK : p < X.length - n := by omega
      have HPI := Lib.hid hpI; have HP := Lib.hid hp
      clear hpI hp
      clear hTI hTO hdr hdr2 hrdw hwlt hwlo hwl hrlt hrl hyn hdl0 hval hpj hpj2 hWe hqe hle
      go_wp2_with fail
      rw [← HP.out, HPI.out, show p + (n + 1) + 1 - p = n + 2 by omega]
      refine HTI.out.mono ?_
      rintro e w5 ⟨rfl, hb5⟩
      have hown5 := hownr.below hb5
      have hownq5 := hownq.below hb5
      have hry5 := hryr.below hb5
      have hTO := HTO.out w5 hown5 hry5
      have HTO5 := Lib.hid hTO
      clear hTO HTO HTI hown5
      go_wp2_with fail
      refine HTO5.out.mono ?_
      rintro e w6 ⟨rfl, d, hdl, hdLo, hdv, hown6, hgb6⟩
      have hownq6 := hownq5.gb hgb6 HQG.out
      have hry6 := hry5.gb hgb6 HAYg.out
      have hbl6 : Below w.heap.size w w6 := (hblr.trans (hb5.mono hblr.size)).trans (gb_below hgb6 (Nat.le_trans hblr.size hb5.size) hgB)
      have hdl0 := HDL.out
      have hcq := hownq6.cell p (by simp; omega)
      have hfq := hownq6.frozen p
      obtain ⟨hr7, hv7⟩ := HDR.out d hdl hdv
      have hR7 : (win R d p).length = X.length + 1 := by rw [win_length (by omega)]; exact HRL.out
      have hRlo7 := Lo_win (p := p) HRLo.out hdLo
      have HR7 := Lib.hid hr7; have HV7 := Lib.hid hv7; have HRL7 := Lib.hid hR7; have HRLo7 := Lib.hid hRlo7
      clear hownr hownq hryr hb5 hownq5 hry5 hgb6 hblr hdl hdLo hdv hdl0 hr7 hv7 hR7 hRlo7 HTO5
      go_wp2
      go_roundw
      case rel =>
        have hset := hownq6.set' p q (yv := (q : Int)) rfl
        rw [cut_set] at hset
        refine ⟨j + 1, win R d p, q :: D, by omega, by go_num, HRL7, HRLo7, Lib.hid (by rw [List.length_cons, HDL.out]), Lib.hid (by intro z hz; rcases List.mem_cons.1 hz with rfl | hz; exact hq; exact HDLo.out z hz), ?_, ?_, hown6.gb (gb_set (gb_refl _ _) _ _) HRQ.out, ?_, hry6.gb (gb_set (gb_refl _ _) _ _) HAYQ.out, hbl6.setCell hB2 _⟩
        · rw [HPJ2.out]; exact HR7
        · rw [HPJ2.out]; exact HV7
        · rw [HPJ2.out]; exact hset
      case measure => simp [intOf]; omega
    · obtain rfl : j = X.length - n := by omega
      have hr := HR.out
      have hv := HV.out
      rw [Nat.sub_self] at hr hv hownq
      rw [List.replicate_zero, List.nil_append] at hownq
      obtain ⟨hqv, hrv⟩ := div_end HYP.out hr hv
      rw [HVX.out, HVY.out] at hqv hrv
      have htq : tr D = dg 1000000000 (vl 1000000000 l / vl 1000000000 m) := by rw [tr_eq (by omega) HDLo.out, hqv]
      have htr : tr R = dg 1000000000 (vl 1000000000 l % vl 1000000000 m) := by rw [tr_eq (by omega) HRLo.out, hrv]
      have hTQ := trim_any (some ⟨gQ, 0, none⟩) (X.length - n) D wr (by have := HDL.out; omega) hownq.rd (by have := HDL.out; omega)
      have hTR := trim_any (some ⟨g, 0, none⟩) c4 R wr (by have := HRL.out; omega) hownr.rd (hownr.cap.1)
      have hoq := hownq.take (tr D).length (by have := tr_take D; rw [this]; simp; omega)
      have hor := hownr.take (tr R).length (by have := tr_take R; rw [this]; simp; omega)
      rw [← tr_take] at hoq hor
      rw [htq] at hTQ hoq
      rw [htr] at hTR hor
      rw [HDL.out] at hTQ
      rw [HRL.out] at hTR
      have HTQ := Lib.hid hTQ; have HTR := Lib.hid hTR
      clear hTQ hTR htq htr hqv hrv hr hv hownq hownr hownQ4 hownR hry4 hbl4
      go_wp2_with fail
      refine HTQ.out.mono ?_
      rintro e w7 ⟨rfl, rfl⟩
      go_wp2_with fail
      refine HTR.out.mono ?_
      rintro e w7 ⟨rfl, rfl⟩
      go_wp2
      go_ret3
      exact ⟨_, _, _, _, rfl, hoq, hor, hblr⟩
end Go.Proofs.YtimfpgpomafflaaGreatDoor
