/- Walks: Sub, Add. -/
import Derived.Test.YtofeckdhhaoobaaDoorLimbD
namespace Go.Proofs.YtofeckdhhaoobaaDoor
open Go.RowKit LM

set_option maxHeartbeats 400000 in
theorem takeOff_nil (a ya : Option Addr) (cx cy t : Nat) (w : World) :
    Calls Tryd.prog 90 #[.slice a 0 cx, .slice ya 0 cy, .int .u64 t] w fun e w' => e = .returned (.tuple #[]) ∧ w = w' := by
  go_enter Tryd.func90, Tryd.ntmps90
  go_wp2
  refine wp_loop_rounds 1 ?_
  rw [rounds_succ]
  go_wp2
  go_end0
  exact ⟨rfl, rfl⟩

set_option maxHeartbeats 2000000 in
theorem Sub_less (a b : Option Addr) (ca cb : Nat) (l m : List Nat) (w : World) (hl : l.length ≤ 1073741824) (hm : m.length ≤ 1073741824) (hlo : Lo 4294967296 l) (hmo : Lo 4294967296 m) (ha : Rd w .u32 a l) (hb : Rd w .u32 b m) (hlt : vl 1000000000 l < vl 1000000000 m) :
    Calls Tryd.prog 60 #[.slice a l.length ca, .slice b m.length cb] w fun e w' => e = .returned (.tuple #[.slice none 0 0, .int .i64 1]) ∧ Below w.heap.size w w' := by
  have hC := Cmp_any b a cb ca m l w hm hl hmo hlo hb ha
  rw [cmpN_gt hlt] at hC
  have HC := Lib.hid hC
  clear hC hlo hmo ha hb
  go_enter Tryd.func60, Tryd.ntmps60
  go_wp2_with fail
  refine HC.out.mono ?_
  rintro e w1 ⟨rfl, hb1⟩
  go_wp2
  go_ret2
  exact ⟨rfl, hb1⟩

set_option maxHeartbeats 2000000 in
theorem Sub_any (a b : Option Addr) (ca cb : Nat) (l m : List Nat) (w : World) (hl : l.length ≤ 1073741824) (hm : m.length ≤ 1073741824) (hlo : Lo 4294967296 l) (hmo : Lo 4294967296 m) (ha : Rd w .u32 a l) (hb : Rd w .u32 b m) (hge : vl 1000000000 m ≤ vl 1000000000 l) :
    Calls Tryd.prog 60 #[.slice a l.length ca, .slice b m.length cb] w fun e w' => ∃ a' cap', e = .returned (.tuple #[.slice a' (dg 1000000000 (vl 1000000000 l - vl 1000000000 m)).length cap', .int .i64 0]) ∧
      Own w' w.heap.size 50 .u32 a' cap' (dg 1000000000 (vl 1000000000 l - vl 1000000000 m)) ∧ Below w.heap.size w w' := by
  have hC := Cmp_any b a cb ca m l w hm hl hmo hlo hb ha
  have hc0 : cmpN (vl 1000000000 m) (vl 1000000000 l) ≤ 0 := by
    rcases Nat.lt_or_ge (vl 1000000000 m) (vl 1000000000 l) with h | h
    · rw [cmpN_lt h]; decide
    · rw [show vl 1000000000 m = vl 1000000000 l by omega, cmpN_eq]; decide
  obtain ⟨c, hc⟩ : ∃ c, c = cmpN (vl 1000000000 m) (vl 1000000000 l) := ⟨_, rfl⟩
  rw [← hc] at hC hc0
  have HC := Lib.hid hC
  have HLO := Lib.hid hlo; have HMO := Lib.hid hmo; have HGE := Lib.hid hge
  have hn1 := nlen hlo
  have hn2 := nlen hmo
  clear hC hlo hmo hc hge
  go_enter Tryd.func60, Tryd.ntmps60
  go_wp2_with fail
  refine HC.out.mono ?_
  rintro e w0 ⟨rfl, hb0⟩
  clear HC
  go_wp2_with fail
  refine (Norm_any a ca l w0 (by omega) HLO.out (ha.below hb0)).mono ?_
  rintro e w1 ⟨a1, c1, rfl, hown1, hb1⟩
  go_wp2_with fail
  refine (Norm_any b cb m w1 (by omega) HMO.out ((hb.below hb0).below hb1)).mono ?_
  rintro e w2 ⟨a2, c2, rfl, hown2, hb2⟩
  have hbl : Below w.heap.size w w2 := hb0.trans ((hb1.mono hb0.size).trans (hb2.mono (Nat.le_trans hb0.size hb1.size)))
  have hownx : Own w2 w.heap.size 50 .u32 a1 c1 (dg 1000000000 (vl 1000000000 l)) := (hown1.below hb2).mono hb0.size
  have hry := hown2.rd
  have hvx := vl_dg (b := 1000000000) (by omega) (vl 1000000000 l)
  have hvy := vl_dg (b := 1000000000) (by omega) (vl 1000000000 m)
  have hlx := Lo_dg (b := 1000000000) (by omega) (vl 1000000000 l)
  have hly := Lo_dg (b := 1000000000) (by omega) (vl 1000000000 m)
  have hlen := dg_len_le (b := 1000000000) (by omega) HGE.out
  have hsz1 := hb1.size
  clear ha hb
  rcases hownx.shape with ⟨hn, hcn, hxn⟩ | ⟨g, hg, hgB, hgl, hxc, hcm⟩
  · have hl0 : vl 1000000000 l = 0 := (dg_eq_nil (by omega)).1 hxn
    have hm0 : vl 1000000000 m = 0 := by have := HGE.out; omega
    have h0 : dg 1000000000 (vl 1000000000 l - vl 1000000000 m) = [] := by rw [hl0]; simp [dg_zero]
    have H0 := Lib.hid h0
    rw [hxn, show dg 1000000000 (vl 1000000000 m) = [] by rw [hm0, dg_zero]]
    subst hn hcn
    clear hownx hown1 hown2 hlx hly hvx hvy hlen hn1 hn2 hl0 hm0 h0 hxn hry
    go_wp2_with fail
    refine (takeOff_nil none a2 0 c2 1 w2).mono ?_
    rintro e w3 ⟨rfl, rfl⟩
    go_wp2_with fail
    refine (trim_any none 0 [] w2 (by simp) (Rd.nil _ _ _) (by simp)).mono ?_
    rintro e w3 ⟨rfl, rfl⟩
    go_wp2
    go_ret2
    exact ⟨none, 0, by rw [H0.out]; rfl, by rw [H0.out]; exact Own.nilNone _ _ _ _, hbl⟩
  · subst hg
    have hap : Apart a2 g := by
      have hw1 : g < w1.heap.size := (hown1.ge).2
      exact hown2.apart hw1
    have hT := takeOff_any w.heap.size g c1 0 (dg 1000000000 (vl 1000000000 l)).length c1 c2 1 a2 (dg 1000000000 (vl 1000000000 l)) (dg 1000000000 (vl 1000000000 m)) w2 hownx (by omega) (by omega) hlen hly (by rw [List.drop_zero, List.take_length]; exact hlx) (by omega) hry hap (by rw [List.drop_zero, List.take_length, hvx, hvy]; have := HGE.out; omega)
    rw [List.drop_zero, List.take_length, hvx, hvy, Nat.one_mul] at hT
    have HT := Lib.hid hT
    have HLN := Lib.hid hlen
    clear hT hownx hown1 hown2 hlx hly hvx hvy hlen hry hap
    go_wp2_with fail
    refine HT.out.mono ?_
    rintro e w3 ⟨rfl, d, hdl, hdLo, hdv, hown3, hgb⟩
    have hw : win (dg 1000000000 (vl 1000000000 l)) d 0 = d := by unfold win; rw [List.take_zero, List.nil_append, Nat.zero_add, hdl, List.drop_length, List.append_nil]
    rw [hw] at hown3
    have hbl3 := hbl.trans (gb_below hgb hbl.size hgB)
    have htr : tr d = dg 1000000000 (vl 1000000000 l - vl 1000000000 m) := by rw [tr_eq (by omega) hdLo, hdv]
    have hR := trim_any (some ⟨g, 0, none⟩) c1 d w3 (by omega) hown3.rd (by omega)
    have ht2 := tr_take d
    have hown4 := hown3.take (tr d).length (by rw [ht2]; simp; omega)
    rw [← ht2] at hown4
    rw [htr] at hR hown4
    rw [hdl] at hR
    have HR := Lib.hid hR
    clear HT hR ht2 htr hw hdl hdLo hdv hown3 hgb hbl
    go_wp2_with fail
    refine HR.out.mono ?_
    rintro e w4 ⟨rfl, rfl⟩
    go_wp2
    go_ret2
    exact ⟨_, _, rfl, hown4, hbl3⟩

set_option maxHeartbeats 4000000 in
theorem Add_any (a b : Option Addr) (ca cb : Nat) (l m : List Nat) (w : World) (hl : l.length ≤ 1073741824) (hm : m.length ≤ 1073741824) (hlo : Lo 4294967296 l) (hmo : Lo 4294967296 m) (ha : Rd w .u32 a l) (hb : Rd w .u32 b m) :
    Calls Tryd.prog 59 #[.slice a l.length ca, .slice b m.length cb] w fun e w' => ∃ a' cap', e = .returned (.slice a' (dg 1000000000 (vl 1000000000 l + vl 1000000000 m)).length cap') ∧
      Own w' w.heap.size 50 .u32 a' cap' (dg 1000000000 (vl 1000000000 l + vl 1000000000 m)) ∧ Below w.heap.size w w' := by
  have HLO := Lib.hid hlo; have HMO := Lib.hid hmo
  have hn1 := nlen hlo
  have hn2 := nlen hmo
  clear hlo hmo
  go_enter Tryd.func59, Tryd.ntmps59
  go_wp2_with fail
  refine (Norm_any a ca l w (by omega) HLO.out ha).mono ?_
  rintro e w1 ⟨a1, c1, rfl, hown1, hb1⟩
  go_wp2_with fail
  refine (Norm_any b cb m w1 (by omega) HMO.out (hb.below hb1)).mono ?_
  rintro e w2 ⟨a2, c2, rfl, hown2, hb2⟩
  have hbl : Below w.heap.size w w2 := hb1.trans (hb2.mono hb1.size)
  have hownX : Own w2 w.heap.size 50 .u32 a1 c1 (dg 1000000000 (vl 1000000000 l)) := hown1.below hb2
  have hownY : Own w2 w.heap.size 50 .u32 a2 c2 (dg 1000000000 (vl 1000000000 m)) := hown2.mono hb1.size
  have hap1 : ∀ g, a1 = some ⟨g, 0, none⟩ → Apart a2 g := by
    intro g hg; subst hg
    exact hown2.apart hown1.ge.2
  have hap2 : ∀ g, a2 = some ⟨g, 0, none⟩ → Apart a1 g := by
    intro g hg b off e; subst hg
    have h1 := hown2.ge.1
    subst e
    rcases hown1.shape with ⟨h, _⟩ | ⟨g', h, _, h2, _⟩
    · cases h
    · simp at h; omega
  have hlx := Lo_dg (b := 1000000000) (by omega) (vl 1000000000 l)
  have hly := Lo_dg (b := 1000000000) (by omega) (vl 1000000000 m)
  have hsum1 : vl 1000000000 (dg 1000000000 (vl 1000000000 l)) + vl 1000000000 (dg 1000000000 (vl 1000000000 m)) = vl 1000000000 l + vl 1000000000 m := by rw [vl_dg (by omega), vl_dg (by omega)]
  have hsum2 : vl 1000000000 (dg 1000000000 (vl 1000000000 m)) + vl 1000000000 (dg 1000000000 (vl 1000000000 l)) = vl 1000000000 l + vl 1000000000 m := by rw [vl_dg (by omega), vl_dg (by omega), Nat.add_comm]
  clear ha hb hown1 hown2 hb1 hb2
  by_cases hsw : (dg 1000000000 (vl 1000000000 l)).length < (dg 1000000000 (vl 1000000000 m)).length
  · have HAP : Hid (∀ g, a2 = some ⟨g, 0, none⟩ → Apart a1 g) := hap2
    have HLX := Lib.hid hly; have HLY := Lib.hid hlx; have HSUM := Lib.hid hsum2
    clear hlx hly hsum1 hsum2 hap1 hap2
    go_wp2_with fail
    go_loopw [21] (fun i wr => ∃ k : Nat, k ≤ (dg 1000000000 (vl 1000000000 l)).length ∧ i = .int .i64 k ∧ Own wr w.heap.size 50 .u32 a2 c2 (addl (dg 1000000000 (vl 1000000000 m)) (dg 1000000000 (vl 1000000000 l)) k) ∧ Rd wr .u32 a1 (dg 1000000000 (vl 1000000000 l)) ∧ Below w.heap.size w wr) (fun i _ => (dg 1000000000 (vl 1000000000 l)).length - (intOf i).toNat)
    case atStart => exact ⟨0, Nat.zero_le _, rfl, by rw [addl_zero]; exact hownY, hownX.rd, hbl⟩
    case round =>
      obtain ⟨k, hk, rfl, hownr, hryr, hblr⟩ := hrel
      by_cases hlt : k < (dg 1000000000 (vl 1000000000 l)).length
      · obtain ⟨b2, o2, v, e2, HV, hv, cv⟩ := hryr.get HLY.out k hlt
        have hap := HAP.out
        have hsh := hownr.shape
        have hal : (addl (dg 1000000000 (vl 1000000000 m)) (dg 1000000000 (vl 1000000000 l)) k).length = (dg 1000000000 (vl 1000000000 m)).length := addl_length (by omega)
        obtain ⟨g, hg, hgB⟩ : ∃ g, a2 = some ⟨g, 0, none⟩ ∧ w.heap.size ≤ g := by
          rcases hsh with ⟨_, _, h3⟩ | ⟨g, h1, h2, _⟩
          · rw [h3] at hal; simp at hal; omega
          · exact ⟨g, h1, h2⟩
        have hapg := hap g hg
        clear hap hsh
        subst hg
        have cu := hownr.cell k (by omega)
        rw [addl_get] at cu
        have hfr := hownr.frozen k
        have hu1 : (dg 1000000000 (vl 1000000000 m))[k]?.getD 0 < 1000000000 := Lo_get HLX.out (by omega) k
        obtain ⟨u, hu⟩ : ∃ u, u = (dg 1000000000 (vl 1000000000 m))[k]?.getD 0 := ⟨_, rfl⟩
        rw [← hu] at cu hu1
        have HU := Lib.hid hu
        have hown2 : ∀ (yv : Int), yv = ((u + v : Nat) : Int) → Own (wr.setCell ⟨g, k, none⟩ (.int .u32 yv)) w.heap.size 50 .u32 (some ⟨g, 0, none⟩) c2 (addl (dg 1000000000 (vl 1000000000 m)) (dg 1000000000 (vl 1000000000 l)) (k + 1)) := by
          intro yv hy
          have := hownr.set' k (u + v) hy
          rwa [HU.out, HV.out, addl_set (by omega)] at this
        have hr2 : ∀ yv, Rd (wr.setCell ⟨g, k, none⟩ yv) .u32 a1 (dg 1000000000 (vl 1000000000 l)) := fun yv => hryr.gb (gb_set (gb_refl _ _) _ _) hapg
        have HO2 := Lib.hid hown2; have HR2 := Lib.hid hr2
        clear hown2 hr2 hu hal hapg
        subst e2
        go_wp2_with fail
        go_region
        all_goals go_wp2
        all_goals go_roundw
        case rel => exact ⟨k + 1, by omega, by go_num, HO2.out _ (by omega), HR2.out _, (hblr.setCell hgB _).drew⟩
        case measure => simp [intOf]; omega
      · obtain rfl : k = (dg 1000000000 (vl 1000000000 l)).length := by omega
        have hal : (addl (dg 1000000000 (vl 1000000000 m)) (dg 1000000000 (vl 1000000000 l)) (dg 1000000000 (vl 1000000000 l)).length).length = (dg 1000000000 (vl 1000000000 m)).length := addl_length (by omega)
        have hN := Norm_any a2 c2 (addl (dg 1000000000 (vl 1000000000 m)) (dg 1000000000 (vl 1000000000 l)) (dg 1000000000 (vl 1000000000 l)).length) wr (by rw [hal]; omega) (addl_Lo HLX.out HLY.out) hownr.rd
        rw [hal, addl_worth _ (by omega) (Nat.le_refl _), List.take_length, HSUM.out] at hN
        have HN := Lib.hid hN
        clear hN hal
        go_wp2_with fail
        refine HN.out.mono ?_
        rintro e w4 ⟨a4, c4, rfl, hown4, hb4⟩
        go_wp2
        go_ret
        exact ⟨a4, c4, rfl, hown4.mono hblr.size, hblr.trans (hb4.mono hblr.size)⟩
  · have HAP : Hid (∀ g, a1 = some ⟨g, 0, none⟩ → Apart a2 g) := hap1
    have HLX := Lib.hid hlx; have HLY := Lib.hid hly; have HSUM := Lib.hid hsum1
    clear hlx hly hsum1 hsum2 hap1 hap2
    go_wp2_with fail
    go_loopw [21] (fun i wr => ∃ k : Nat, k ≤ (dg 1000000000 (vl 1000000000 m)).length ∧ i = .int .i64 k ∧ Own wr w.heap.size 50 .u32 a1 c1 (addl (dg 1000000000 (vl 1000000000 l)) (dg 1000000000 (vl 1000000000 m)) k) ∧ Rd wr .u32 a2 (dg 1000000000 (vl 1000000000 m)) ∧ Below w.heap.size w wr) (fun i _ => (dg 1000000000 (vl 1000000000 m)).length - (intOf i).toNat)
    case atStart => exact ⟨0, Nat.zero_le _, rfl, by rw [addl_zero]; exact hownX, hownY.rd, hbl⟩
    case round =>
      obtain ⟨k, hk, rfl, hownr, hryr, hblr⟩ := hrel
      by_cases hlt : k < (dg 1000000000 (vl 1000000000 m)).length
      · obtain ⟨b2, o2, v, e2, HV, hv, cv⟩ := hryr.get HLY.out k hlt
        have hap := HAP.out
        have hsh := hownr.shape
        have hal : (addl (dg 1000000000 (vl 1000000000 l)) (dg 1000000000 (vl 1000000000 m)) k).length = (dg 1000000000 (vl 1000000000 l)).length := addl_length (by omega)
        obtain ⟨g, hg, hgB⟩ : ∃ g, a1 = some ⟨g, 0, none⟩ ∧ w.heap.size ≤ g := by
          rcases hsh with ⟨_, _, h3⟩ | ⟨g, h1, h2, _⟩
          · rw [h3] at hal; simp at hal; omega
          · exact ⟨g, h1, h2⟩
        have hapg := hap g hg
        clear hap hsh
        subst hg
        have cu := hownr.cell k (by omega)
        rw [addl_get] at cu
        have hfr := hownr.frozen k
        have hu1 : (dg 1000000000 (vl 1000000000 l))[k]?.getD 0 < 1000000000 := Lo_get HLX.out (by omega) k
        obtain ⟨u, hu⟩ : ∃ u, u = (dg 1000000000 (vl 1000000000 l))[k]?.getD 0 := ⟨_, rfl⟩
        rw [← hu] at cu hu1
        have HU := Lib.hid hu
        have hown2 : ∀ (yv : Int), yv = ((u + v : Nat) : Int) → Own (wr.setCell ⟨g, k, none⟩ (.int .u32 yv)) w.heap.size 50 .u32 (some ⟨g, 0, none⟩) c1 (addl (dg 1000000000 (vl 1000000000 l)) (dg 1000000000 (vl 1000000000 m)) (k + 1)) := by
          intro yv hy
          have := hownr.set' k (u + v) hy
          rwa [HU.out, HV.out, addl_set (by omega)] at this
        have hr2 : ∀ yv, Rd (wr.setCell ⟨g, k, none⟩ yv) .u32 a2 (dg 1000000000 (vl 1000000000 m)) := fun yv => hryr.gb (gb_set (gb_refl _ _) _ _) hapg
        have HO2 := Lib.hid hown2; have HR2 := Lib.hid hr2
        clear hown2 hr2 hu hal hapg
        subst e2
        go_wp2_with fail
        go_region
        all_goals go_wp2
        all_goals go_roundw
        case rel => exact ⟨k + 1, by omega, by go_num, HO2.out _ (by omega), HR2.out _, (hblr.setCell hgB _).drew⟩
        case measure => simp [intOf]; omega
      · obtain rfl : k = (dg 1000000000 (vl 1000000000 m)).length := by omega
        have hal : (addl (dg 1000000000 (vl 1000000000 l)) (dg 1000000000 (vl 1000000000 m)) (dg 1000000000 (vl 1000000000 m)).length).length = (dg 1000000000 (vl 1000000000 l)).length := addl_length (by omega)
        have hN := Norm_any a1 c1 (addl (dg 1000000000 (vl 1000000000 l)) (dg 1000000000 (vl 1000000000 m)) (dg 1000000000 (vl 1000000000 m)).length) wr (by rw [hal]; omega) (addl_Lo HLX.out HLY.out) hownr.rd
        rw [hal, addl_worth _ (by omega) (Nat.le_refl _), List.take_length, HSUM.out] at hN
        have HN := Lib.hid hN
        clear hN hal
        go_wp2_with fail
        refine HN.out.mono ?_
        rintro e w4 ⟨a4, c4, rfl, hown4, hb4⟩
        go_wp2
        go_ret
        exact ⟨a4, c4, rfl, hown4.mono hblr.size, hblr.trans (hb4.mono hblr.size)⟩
end Go.Proofs.YtofeckdhhaoobaaDoor
