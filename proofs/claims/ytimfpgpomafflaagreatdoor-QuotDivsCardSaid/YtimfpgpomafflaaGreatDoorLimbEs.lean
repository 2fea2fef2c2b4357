/- Walks: Sub, Add. -/
import Derived.Test.YtimfpgpomafflaaGreatDoorLimbKits
namespace Go.Proofs.YtimfpgpomafflaaGreatDoor
open Go.RowKit LM

set_option maxHeartbeats 400000 in
theorem takeOff_nil (a ya : Option Addr) (cx cy t : Nat) (w : World) :
    Calls Tryz.prog 80 #[.slice a 0 cx, .slice ya 0 cy, .int .u64 t] w fun e w' => e = .returned (.tuple #[]) ∧ w = w' := by
  go_enter Tryz.func80, Tryz.ntmps80
  go_wp2
  refine wp_loop_rounds 1 ?_
  rw [rounds_succ]
  go_wp2
  go_end0
  exact ⟨rfl, rfl⟩

set_option maxHeartbeats 2000000 in
theorem Sub_less (a b : Option Addr) (ca cb : Nat) (l m : List Nat) (w : World) (hl : l.length ≤ 1073741824) (hm : m.length ≤ 1073741824) (hlo : Lo 4294967296 l) (hmo : Lo 4294967296 m) (ha : Rd w .u32 a l) (hb : Rd w .u32 b m) (hlt : vl 1000000000 l < vl 1000000000 m) :
    Calls Tryz.prog 65 #[.slice a l.length ca, .slice b m.length cb] w fun e w' => e = .returned (.tuple #[.slice none 0 0, .int .i64 1]) ∧ Below w.heap.size w w' := by
  have hC := Cmp_any b a cb ca m l w hm hl hmo hlo hb ha
  rw [cmpN_gt hlt] at hC
  have HC := Lib.hid hC
  clear hC hlo hmo ha hb
  go_enter Tryz.func65, Tryz.ntmps65
  go_wp2_with fail
  refine HC.out.mono ?_
  rintro e w1 ⟨rfl, hb1⟩
  go_wp2
  go_ret2
  exact ⟨rfl, hb1⟩

set_option maxHeartbeats 2000000 in
theorem Sub_any (a b : Option Addr) (ca cb : Nat) (l m : List Nat) (w : World) (hl : l.length ≤ 1073741824) (hm : m.length ≤ 1073741824) (hlo : Lo 4294967296 l) (hmo : Lo 4294967296 m) (ha : Rd w .u32 a l) (hb : Rd w .u32 b m) (hge : vl 1000000000 m ≤ vl 1000000000 l) :
    Calls Tryz.prog 65 #[.slice a l.length ca, .slice b m.length cb] w fun e w' => ∃ a' cap', e = .returned (.tuple #[.slice a' (dg 1000000000 (vl 1000000000 l - vl 1000000000 m)).length cap', .int .i64 0]) ∧
      Own w' w.heap.size 40 .u32 a' cap' (dg 1000000000 (vl 1000000000 l - vl 1000000000 m)) ∧ Below w.heap.size w w' := by
  have hC := Cmp_any b a cb ca m l w hm hl hmo hlo hb ha
  have hc0 : cmpN (vl 1000000000 m) (vl 1000000000 l) ≤ 0 := by
    rcases Nat.lt_or_ge (vl 1000000000 m) (vl 1000000000 l) with h | h
    · rw [cmpN_lt h]; decide
    · rw [show vl 1000000000 m = vl 1000000000 l by omega, cmpN_eq]; decide
  obtain ⟨c, hc⟩ : ∃ c, c = cmpN (vl 1000000000 m) (vl 1000000000 l) := ⟨_, rfl⟩
  rw [← hc] at hC hc0
  have HC := Lib.hid hC
  have HLO := Lib.hid hlo; have HMO := Lib.hid hmo; have HGE := Lib.hid hge
  have hn1 := nlen hlo
  have hn2 := nlen hmo
  clear hC hlo hmo hc hge
  go_enter Tryz.func65, Tryz.ntmps65
  go_wp2_with fail
  refine HC.out.mono ?_
  rintro e w0 ⟨rfl, hb0⟩
  clear HC
  go_wp2_with fail
  refine (Norm_any a ca l w0 (by omega) HLO.out (ha.below hb0)).mono ?_
  rintro e w1 ⟨a1, c1, rfl, hown1, hb1⟩
  go_wp2_with fail
  refine (Norm_any b cb m w1 (by omega) HMO.out ((hb.below hb0).below hb1)).mono ?_
  rintro e w2 ⟨a2, c2, rfl, hown2, hb2⟩
  have hbl : Below w.heap.size w w2 := hb0.trans ((hb1.mono hb0.size).trans (hb2.mono (Nat.le_trans hb0.size hb1.size)))
  have hownx : Own w2 w.heap.size 40 .u32 a1 c1 (dg 1000000000 (vl 1000000000 l)) := (hown1.below hb2).mono hb0.size
  have hry := hown2.rd
  have hvx := vl_dg (b := 1000000000) (by omega) (vl 1000000000 l)
  have hvy := vl_dg (b := 1000000000) (by omega) (vl 1000000000 m)
  have hlx := Lo_dg (b := 1000000000) (by omega) (vl 1000000000 l)
  have hly := Lo_dg (b := 1000000000) (by omega) (vl 1000000000 m)
  have hlen := dg_len_le (b := 1000000000) (by omega) HGE.out
  have hsz1 := hb1.size
  clear ha hb
  rcases hownx.shape with ⟨hn, hcn, hxn⟩ | ⟨g, hg, hgB, hgl, hxc, hcm⟩
  · have hl0 : vl 1000000000 l = 0 := (dg_eq_nil (by omega)).1 hxn
    have hm0 : vl 1000000000 m = 0 := by have := HGE.out; omega
    have h0 : dg 1000000000 (vl 1000000000 l - vl 1000000000 m) = [] := by rw [hl0]; simp [dg_zero]
    have H0 := Lib.hid h0
    rw [hxn, show dg 1000000000 (vl 1000000000 m) = [] by rw [hm0, dg_zero]]
    subst hn hcn
    clear hownx hown1 hown2 hlx hly hvx hvy hlen hn1 hn2 hl0 hm0 h0 hxn hry
    go_wp2_with fail
    refine (takeOff_nil none a2 0 c2 1 w2).mono ?_
    rintro e w3 ⟨rfl, rfl⟩
    go_wp2_with fail
    refine (trim_any none 0 [] w2 (by simp) (Rd.nil _ _ _) (by simp)).mono ?_
    rintro e w3 ⟨rfl, rfl⟩
    go_wp2
    go_ret2
    exact ⟨none, 0, by rw [H0.out]; rfl, by rw [H0.out]; exact Own.nilNone _ _ _ _, hbl⟩
  · subst hg
    have hap : Apart a2 g := by
      have hw1 : g < w1.heap.size := (hown1.ge).2
      exact hown2.apart hw1
    have hT := takeOff_any w.heap.size g c1 0 (dg 1000000000 (vl 1000000000 l)).length c1 c2 1 a2 (dg 1000000000 (vl 1000000000 l)) (dg 1000000000 (vl 1000000000 m)) w2 hownx (by omega) (by omega) hlen hly (by rw [List.drop_zero, List.take_length]; exact hlx) (by omega) hry hap (by rw [List.drop_zero, List.take_length, hvx, hvy]; have := HGE.out; omega)
    rw [List.drop_zero, List.take_length, hvx, hvy, Nat.one_mul] at hT
    have HT := Lib.hid hT
    have HLN := Lib.hid hlen
    clear hT hownx hown1 hown2 hlx hly hvx hvy hlen hry hap
    go_wp2_with fail
    refine HT.out.mono ?_
    rintro e w3 ⟨rfl, d, hdl, hdLo, hdv, hown3, hgb⟩
    have hw : win (dg 1000000000 (vl 1000000000 l)) d 0 = d := by unfold win; rw [List.take_zero, List.nil_append, Nat.zero_add, hdl, List.drop_length, List.append_nil]
    rw [hw] at hown3
    have hbl3 := hbl.trans (gb_below hgb hbl.size hgB)
    have htr : tr d = dg 1000000000 (vl 1000000000 l - vl 1000000000 m) := by rw [tr_eq (by omega) hdLo, hdv]
    have hR := trim_any (some ⟨g, 0, none⟩) c1 d w3 (by omega) hown3.rd (by omega)
    have ht2 := tr_take d
    have hown4 := hown3.take (tr d).length (by rw [ht2]; simp; omega)
    rw [← ht2] at hown4
    rw [htr] at hR hown4
    rw [hdl] at hR
    have HR := Lib.hid hR
    clear HT hR ht2 htr hw hdl hdLo hdv hown3 hgb hbl
    go_wp2_with fail
    refine HR.out.mono ?_
    rintro e w4 ⟨rfl, rfl⟩
    go_wp2
    go_ret2
    exact ⟨_, _, rfl, hown4, hbl3⟩

set_option maxHeartbeats 4000000 in
theorem Add_any (a b : Option Addr) (ca cb : Nat) (l m : List Nat) (w : World) (hl : l.length ≤ 1073741824) (hm : m.length ≤ 1073741824) (hlo : Lo 4294967296 l) (hmo : Lo 4294967296 m) (ha : Rd w .u32 a l) (hb : Rd w .u32 b m) :
    Calls Tryz.prog 64 #[.slice a l.length ca, .slice b m.length cb] w fun e w' => ∃ a' cap', e = .returned (.slice a' (dg 1000000000 (vl 1000000000 l + vl 1000000000 m)).length cap') ∧
      Own w' w.heap.size 40 .u32 a' cap' (dg 1000000000 (vl 1000000000 l + vl 1000000000 m)) ∧ Below w.heap.size w w' := by
  have HLO := Lib.hid hlo; have HMO := Lib.hid hmo
  have hn1 := nlen hlo
  have hn2 := nlen hmo
  clear hlo hmo
  go_enter Tryz.func64, Tryz.ntmps64
  go_wp2_with fail
  refine (Norm_any a ca l w (by omega) HLO.out ha).mono ?_
  rintro e w1 ⟨a1, c1, rfl, hown1, hb1⟩
  go_wp2_with fail
  refine (Norm_any b cb m w1 (by omega) HMO.out (hb.below hb1)).mono ?_
  rintro e w2 ⟨a2, c2, rfl, hown2, hb2⟩
  have hbl : Below w.heap.size w w2 := hb1.trans (hb2.mono hb1.size)
  have hownX : Own w2 w.heap.size 40 .u32 a1 c1 (dg 1000000000 (vl 1000000000 l)) := hown1.below hb2
  have hownY : Own w2 w.heap.size 40 .u32 a2 c2 (dg 1000000000 (vl 1000000000 m)) := hown2.mono hb1.size
  have hap1 : ∀ g, a1 = some ⟨g, 0, none⟩ → Apart a2 g := by
    intro g hg; subst hg
    exact hown2.apart hown1.ge.2
  have hap2 : ∀ g, a2 = some ⟨g, 0, none⟩ → Apart a1 g := by
    intro g hg b off e; subst hg
    have h1 := hown2.ge.1
    subst e
    rcases hown1.shape with ⟨h, _⟩ | ⟨g', h, _, h2, _⟩
    · cases h
    · simp at h; omega
  have hlx := Lo_dg (b := 1000000000) (by omega) (vl 1000000000 l)
  have hly := Lo_dg (b := 1000000000) (by omega) (vl 1000000000 m)
  have hsum1 : vl 1000000000 (dg 1000000000 (vl 1000000000 l)) + vl 1000000000 (dg 1000000000 (vl 1000000000 m)) = vl 1000000000 l + vl 1000000000 m := by rw [vl_dg (by omega), vl_dg (by omega)]
  have hsum2 : vl 1000000000 (dg 1000000000 (vl 1000000000 m)) + vl 1000000000 (dg 1000000000 (vl 1000000000 l)) = vl 1000000000 l + vl 1000000000 m := by rw [vl_dg (by omega), vl_dg (by omega), Nat.add_comm]
  clear ha hb hown1 hown2 hb1 hb2
  by_cases hsw : (dg 1000000000 (vl 1000000000 l)).length < (dg 1000000000 (vl 1000000000 m)).length
  · have HAP : Hid (∀ g, a2 = some ⟨g, 0, none⟩ → Apart a1 g) := hap2
    have HLX := Lib.hid hly; have HLY := Lib.hid hlx; have HSUM := Lib.hid hsum2
    clear hlx hly hsum1 hsum2 hap1 hap2
    go_wp2_with fail
    go_loopw [21] (fun i wr => ∃ k : Nat, k ≤ (dg 1000000000 (vl 1000000000 l)).length ∧ i = .int .i64 k ∧ Own wr w.heap.size 40 .u32 a2 c2 (addl (dg 1000000000 (vl 1000000000 m)) (dg 1000000000 (vl 1000000000 l)) k) ∧ Rd wr .u32 a1 (dg 1000000000 (vl 1000000000 l)) ∧ Below w.heap.size w wr) (fun i _ => (dg 1000000000 (vl 1000000000 l)).length - (intOf i).toNat)
    case atStart => exact ⟨0, Nat.zero_le _, rfl, by rw [addl_zero]; exact hownY, hownX.rd, hbl⟩
    case round =>
      obtain ⟨k, hk, rfl, hownr, hryr, hblr⟩ := hrel
      by_cases hlt : k < (dg 1000000000 (vl 1000000000 l)).length
      · obtain ⟨b2, o2, v, e2, HV, hv, cv⟩ := hryr.get HLY.out k hlt
        have hap := HAP.out
        have hsh := hownr.shape
        have hal : (addl (dg 1000000000 (vl 1000000000 m)) (dg 1000000000 (vl 1000000000 l)) k).length = (dg 1000000000 (vl 1000000000 m)).length := addl_length (by omega)
        obtain ⟨g, hg, hgB⟩ : ∃ g, a2 = some ⟨g, 0, none⟩ ∧ w.heap.size ≤ g := by
          rcases hsh with ⟨_, _, h3⟩ | ⟨g, h1, h2, _⟩
          · rw [h3] at hal; simp at hal; omega
          · exact ⟨g, h1, h2⟩
        have hapg := hap g hg
        clear hap hsh
        subst hg
        have cu := hownr.cell k (by omega)
        rw [addl_get] at cu
        have hfr := hownr.frozen k
        have hu1 : (dg 1000000000 (vl 1000000000 m))[k]?.getD 0 < 1000000000 := Lo_get HLX.out (by omega) k
        obtain ⟨u, hu⟩ : ∃ u, u = (dg 1000000000 (vl 1000000000 m))[k]?.getD 0 := ⟨_, rfl⟩
        rw [← hu] at cu hu1
        have HU := Lib.hid hu
        have hown2 : ∀ (yv : Int), yv = ((u + v : Nat) : Int) → Own (wr.setCell ⟨g, k, none⟩ (.int .u32 yv)) w.heap.size 40 .u32 (some ⟨g, 0, none⟩) c2 (addl (dg 1000000000 (vl 1000000000 m)) (dg 1000000000 (vl 1000000000 l)) (k + 1)) := by
          intro yv hy
          have := hownr.set' k (u + v) hy
          rwa [HU.out, HV.out, addl_set (by omega)] at this
        have hr2 : ∀ yv, Rd (wr.setCell ⟨g, k, none⟩ yv) .u32 a1 (dg 1000000000 (vl 1000000000 l)) := fun yv => hryr.gb (gb_set (gb_refl _ _) _ _) hapg
        have HO2 := Lib.hid hown2; have HR2 := Lib.hid hr2
        clear hown2 hr2 hu hal hapg
        subst e2
        go_wp2_with fail
        go_region
        all_goals go_wp2
        all_goals go_roundw
        case rel => exact ⟨k + 1, by omega, by go_num, HO2.out _ (by omega), HR2.out _, (hblr.setCell hgB _).drew⟩
        case measure => simp [intOf]; omega
      · obtain rfl : k = (dg 1000000000 (vl 1000000000 l)).length := by omega
        have hal : (addl (dg 1000000000 (vl 1000000000 m)) (dg 1000000000 (vl 1000000000 l)) (dg 1000000000 (vl 1000000000 l)).length).length = (dg 1000000000 (vl 1000000000 m)).length := addl_length (by omega)
        have hN := Norm_any a2 c2 (addl (dg 1000000000 (vl 1000000000 m)) (dg 1000000000 (vl 1000000000 l)) (dg 1000000000 (vl 1000000000 l)).length) wr (by rw [hal]; omega) (addl_Lo HLX.out HLY.out) hownr.rd
        rw [hal, addl_worth _ (by omega) (Nat.le_refl _), List.take_length, HSUM.out] at hN
        have HN := Lib.hid hN
        clear hN hal
        go_wp2_with fail
        refine HN.out.mono ?_
        rintro e w4 ⟨a4, c4, rfl, hown4, hb4⟩
        go_wp2
        go_ret
        exact ⟨a4, c4, rfl, hown4.mono hblr.size, hblr.trans (hb4.mono hblr.size)⟩
  · have HAP : Hid (∀ g, a1 = some ⟨g, 0, none⟩ → Apart a2 g) := hap1
    have HLX := Lib.hid hlx; have HLY := Lib.hid hly; have HSUM := Lib.hid hsum1
    clear hlx hly hsum1 hsum2 hap1 hap2
    go_wp2_with fail
    go_loopw [21] (fun i wr => ∃ k : Nat, k ≤ (dg 1000000000 (vl 1000000000 m)).length ∧ i = .int .i64 k ∧ Own wr w.heap.size 40 .u32 a1 c1 (addl (dg 1000000000 (vl 1000000000 l)) (dg 1000000000 (vl 1000000000 m)) k) ∧ Rd wr .u32 a2 (dg 1000000000 (vl 1000000000 m)) ∧ Below w.heap.size w wr) (fun i _ => (dg 1000000000 (vl 1000000000 m)).length - (intOf i).toNat)
    case atStart => exact ⟨0, Nat.zero_le _, rfl, by rw [addl_zero]; exact hownX, hownY.rd, hbl⟩
    case round =>
      obtain ⟨k, hk, rfl, hownr, hryr, hblr⟩ := hrel
      by_cases hlt : k < (dg 1000000000 (vl 1000000000 m)).length
      · obtain ⟨b2, o2, v, e2, HV, hv, cv⟩ := hryr.get HLY.out k hlt
        have hap := HAP.out
        have hsh := hownr.shape
        have hal : (addl (dg 1000000000 (vl 1000000000 l)) (dg 1000000000 (vl 1000000000 m)) k).length = (dg 1000000000 (vl 1000000000 l)).length := addl_length (by omega)
        obtain ⟨g, hg, hgB⟩ : ∃ g, a1 = some ⟨g, 0, none⟩ ∧ w.heap.size ≤ g := by
          rcases hsh with ⟨_, _, h3⟩ | ⟨g, h1, h2, _⟩
          · rw [h3] at hal; simp at hal; omega
          · exact ⟨g, h1, h2⟩
        have hapg := hap g hg
        clear hap hsh
        subst hg
        have cu := hownr.cell k (by omega)
        rw [addl_get] at cu
        have hfr := hownr.frozen k
        have hu1 : (dg 1000000000 (vl 1000000000 l))[k]?.getD 0 < 1000000000 := Lo_get HLX.out (by omega) k
        obtain ⟨u, hu⟩ : ∃ u, u = (dg 1000000000 (vl 1000000000 l))[k]?.getD 0 := ⟨_, rfl⟩
        rw [← hu] at cu hu1
        have HU := Lib.hid hu
        have hown2 : ∀ (yv : Int), yv = ((u + v : Nat) : Int) → Own (wr.setCell ⟨g, k, none⟩ (.int .u32 yv)) w.heap.size 40 .u32 (some ⟨g, 0, none⟩) c1 (addl (dg 1000000000 (vl 1000000000 l)) (dg 1000000000 (vl 1000000000 m)) (k + 1)) := by
          intro yv hy
          have := hownr.set' k (u + v) hy
          rwa [HU.out, HV.out, addl_set (by omega)] at this
        have hr2 : ∀ yv, Rd (wr.setCell ⟨g, k, none⟩ yv) .u32 a2 (dg 1000000000 (vl 1000000000 m)) := fun yv => hryr.gb (gb_set (gb_refl _ _) _ _) hapg
        have HO2 := Lib.hid hown2; have HR2 := Lib.hid hr2
        clear hown2 hr2 hu hal hapg
        subst e2
        go_wp2_with fail
        go_region
        all_goals go_wp2
        all_goals go_roundw
        case rel => exact ⟨k + 1, by omega, by go_num, HO2.out _ (by omega), HR2.out _, (hblr.setCell hgB _).drew⟩
        case measure => simp [intOf]; omega
      · obtain rfl : k = (dg 1000000000 (vl 1000000000 m)).length := by omega
        have hal : (addl (dg 1000000000 (vl 1000000000 l)) (dg 1000000000 (vl 1000000000 m)) (dg 1000000000 (vl 1000000000 m)).length).length = (dg 1000000000 (vl 1000000000 l)).length := addl_length (by omega)
        have hN := Norm_any a1 c1 (addl (dg 1000000000 (vl 1000000000 l)) (dg 1000000000 (vl 1000000000 m)) (dg 1000000000 (vl 1000000000 m)).length) wr (by rw [hal]; omega) (addl_Lo HLX.out HLY.out) hownr.rd
        rw [hal, addl_worth _ (by omega) (Nat.le_refl _), List.take_length, HSUM.out] at hN
        have HN := Lib.hid hN
        clear hN hal
        go_wp2_with fail
        refine HN.out.mono ?_
        rintro e w4 ⟨a4, c4, rfl, hown4, hb4⟩
        go_wp2
        go_ret
        exact ⟨a4, c4, rfl, hown4.mono hblr.size, hblr.trans (hb4.mono hblr.size)⟩
end Go.Proofs.YtimfpgpomafflaaGreatDoor

/- Walks: Mul. -/
namespace Go.Proofs.YtimfpgpomafflaaGreatDoor
open Go.RowKit LM

theorem mul_bound {p u v c : Nat} (hp : p < 1000000000) (hu : u < 1000000000) (hv : v < 1000000000) (hc : c < 1000000000) : u * v ≤ 999999998000000001 ∧ p + u * v + c ≤ 999999999999999999 ∧ (p + u * v + c) / 1000000000 < 1000000000 := by
  have h : u * v ≤ 999999999 * 999999999 := Nat.mul_le_mul (by omega) (by omega)
  have e : 999999999 * 999999999 = 999999998000000001 := by decide
  omega

set_option maxHeartbeats 8000000 in
theorem Mul_any (a b : Option Addr) (ca cb : Nat) (l m : List Nat) (w : World) (hl : l.length ≤ 1073741824) (hm : m.length ≤ 1073741824) (hlo : Lo 4294967296 l) (hmo : Lo 4294967296 m) (ha : Rd w .u32 a l) (hb : Rd w .u32 b m) :
    Calls Tryz.prog 60 #[.slice a l.length ca, .slice b m.length cb] w fun e w' => ∃ a' cap', e = .returned (.slice a' (dg 1000000000 (vl 1000000000 l * vl 1000000000 m)).length cap') ∧
      Own w' w.heap.size 40 .u32 a' cap' (dg 1000000000 (vl 1000000000 l * vl 1000000000 m)) ∧ Below w.heap.size w w' := by
  have HLO := Lib.hid hlo; have HMO := Lib.hid hmo
  have hn1 := nlen hlo
  have hn2 := nlen hmo
  clear hlo hmo
  go_enter Tryz.func60, Tryz.ntmps60
  go_wp2_with fail
  refine (Norm_any a ca l w (by omega) HLO.out ha).mono ?_
  rintro e w1 ⟨a1, c1, rfl, hown1, hb1⟩
  go_wp2_with fail
  refine (Norm_any b cb m w1 (by omega) HMO.out (hb.below hb1)).mono ?_
  rintro e w2 ⟨a2, c2, rfl, hown2, hb2⟩
  have hbl : Below w.heap.size w w2 := hb1.trans (hb2.mono hb1.size)
  have hx := (hown1.below hb2).rd
  have hy := hown2.rd
  have hapx : Apart a1 w2.heap.size := by
    intro b off e; have h1 := hb2.size
    rcases hown1.shape with ⟨h, _⟩ | ⟨g', h, _, h2, _⟩
    · rw [h] at e; cases e
    · rw [h] at e; simp at e; omega
  have hapy : Apart a2 w2.heap.size := by
    intro b off e
    rcases hown2.shape with ⟨h, _⟩ | ⟨g', h, _, h2, _⟩
    · rw [h] at e; cases e
    · rw [h] at e; simp at e; omega
  have hlx := Lo_dg (b := 1000000000) (by omega) (vl 1000000000 l)
  have hly := Lo_dg (b := 1000000000) (by omega) (vl 1000000000 m)
  have hprod : vl 1000000000 (dg 1000000000 (vl 1000000000 l)) * vl 1000000000 (dg 1000000000 (vl 1000000000 m)) = vl 1000000000 l * vl 1000000000 m := by rw [vl_dg (by omega), vl_dg (by omega)]
  have HLX := Lib.hid hlx; have HLY := Lib.hid hly; have HPR := Lib.hid hprod; have HAX := Lib.hid hapx; have HAY := Lib.hid hapy
  clear ha hb hown1 hown2 hb1 hb2 hlx hly hprod hapx hapy
  generalize dg 1000000000 (vl 1000000000 l) = X at *
  generalize dg 1000000000 (vl 1000000000 m) = Y at *
  go_wp2_with (at_make; refine wp_make _ rfl _ _ 22 rfl w2.heap.size 40 .u32 4 Tryz.underlying22 infoU32 _ _ _ _ (X.length + Y.length) rfl rfl (by omega) (by omega) (by omega) (by unfold maxLen; omega) (Nat.le_refl _) ?_)
  intro w3 hown3 hb3
  have hbl3 : Below w.heap.size w w3 := hbl.trans (hb3.mono hbl.size)
  have hx3 := hx.below hb3
  have hy3 := hy.below hb3
  have hown4 : Own w3 w.heap.size 40 .u32 (some ⟨w2.heap.size, 0, none⟩) (X.length + Y.length) (List.replicate (X.length + Y.length) 0) := hown3.mono hbl.size
  have hgB := hbl.size
  clear hown3 hb3 hx hy hbl
  generalize w2.heap.size = g at *
  go_wp2_with fail
  go_loopw [24] (fun i wr => ∃ (k : Nat) (D : List Nat), k ≤ X.length ∧ i = .int .i64 k ∧ Hid (D.length = k + Y.length) ∧ Hid (Lo 1000000000 D) ∧ Hid (vl 1000000000 D = vl 1000000000 (X.take k) * vl 1000000000 Y) ∧
      Own wr w.heap.size 40 .u32 (some ⟨g, 0, none⟩) (X.length + Y.length) (D ++ List.replicate (X.length - k) 0) ∧ Rd wr .u32 a1 X ∧ Rd wr .u32 a2 Y ∧ Below w.heap.size w wr) (fun i _ => X.length - (intOf i).toNat)
  case atStart => exact ⟨0, List.replicate Y.length 0, Nat.zero_le _, rfl, (by simp : (List.replicate Y.length 0).length = 0 + Y.length), (Lo_zeros (by omega)), (by rw [vl_zeros]; simp [vl] : vl 1000000000 (List.replicate Y.length 0) = vl 1000000000 (X.take 0) * vl 1000000000 Y), by rw [List.replicate_append_replicate, Nat.sub_zero, Nat.add_comm Y.length]; exact hown4, hx3, hy3, hbl3⟩
  case round =>
    obtain ⟨k, D, hk, rfl, HDL, HDLo, HDV, hownr, hxr, hyr, hblr⟩ := hrel
    by_cases hlt : k < X.length
    · have HOWN := Lib.hid hownr
      clear hown4 hownr
      go_wp2_with fail
      go_loopw [9, 29] (fun s9 i ws => ∃ (j c : Nat) (E : List Nat), j ≤ Y.length ∧ i = .int .i64 j ∧ s9 = .int .u64 c ∧ c < 1000000000 ∧ Hid (E.length = j) ∧ Hid (Lo 1000000000 E) ∧
          Hid (∀ u, u = X[k]?.getD 0 → vl 1000000000 ((D.drop k).take j) + u * vl 1000000000 (Y.take j) = vl 1000000000 E + 1000000000 ^ j * c) ∧
          Own ws w.heap.size 40 .u32 (some ⟨g, 0, none⟩) (X.length + Y.length) (win (D ++ List.replicate (X.length - k) 0) E k) ∧ Rd ws .u32 a1 X ∧ Rd ws .u32 a2 Y ∧ Below w.heap.size w ws) (fun _ i _ => Y.length - (intOf i).toNat)
      case atStart => exact ⟨0, 0, [], Nat.zero_le _, rfl, rfl, by omega, (rfl : ([] : List Nat).length = 0), Lo_nil _, (by intro u _; simp [vl] : ∀ u, u = X[k]?.getD 0 → vl 1000000000 ((D.drop k).take 0) + u * vl 1000000000 (Y.take 0) = vl 1000000000 [] + 1000000000 ^ 0 * 0), by rw [win_nil]; exact HOWN.out, hxr, hyr, hblr⟩
      case round =>
        obtain ⟨j, c, E, hj, rfl, rfl, hc, HEL, HELo, HEV, hown5, hx5, hy5, hbl5⟩ := hrel
        by_cases hjt : j < Y.length
        · obtain ⟨b1, o1, u, e1, HU, hu, cu⟩ := hx5.get HLX.out k hlt
          obtain ⟨b2, o2, v, e2, HV, hv, cv⟩ := hy5.get HLY.out j hjt
          have cp := hown5.cell (k + j) (by rw [win_length (by simp; have h1 := HDL.out; have h2 := HEL.out; omega)]; simp; have h1 := HDL.out; omega)
          rw [mul_get HDL.out HEL.out hjt] at cp
          have hp : D[k + j]?.getD 0 < 1000000000 := Lo_get HDLo.out (by omega) _
          obtain ⟨p, hpe⟩ : ∃ p, p = D[k + j]?.getD 0 := ⟨_, rfl⟩
          rw [← hpe] at cp hp
          have HP := Lib.hid hpe
          have hfr := hown5.frozen (k + j)
          obtain ⟨hm1, hm2, hm3⟩ := mul_bound hp hu hv hc
          have hi0 : (0 : Int) ≤ (u : Int) * (v : Int) := by rw [← Int.natCast_mul]; omega
          have hi1 : (u : Int) * (v : Int) ≤ 999999998000000001 := by rw [← Int.natCast_mul]; omega
          have hi2 : (p : Int) + (u : Int) * (v : Int) + (c : Int) ≤ 999999999999999999 := by rw [← Int.natCast_mul]; omega
          subst e1 e2
          clear hpe
          go_wp2_with fail
          go_quiet (fail)
          go_wp2
          go_roundw
          case rel => exact ⟨j + 1, (p + u * v + c) / 1000000000, E ++ [(p + u * v + c) % 1000000000], by omega, by go_num, by rw [← Int.natCast_mul]; go_num, hm3, (by rw [List.length_append, HEL.out]; rfl : (E ++ [(p + u * v + c) % 1000000000]).length = j + 1), (Lo_append HELo.out (Lo_one (by omega)) : Lo 1000000000 (E ++ [(p + u * v + c) % 1000000000])),
            (fun u' hu' => mul_step (by have h1 := HDL.out; omega) HEL.out HP.out HV.out hjt (HEV.out u' hu') (by rw [hu', ← HU.out]) : ∀ u', u' = X[k]?.getD 0 → vl 1000000000 ((D.drop k).take (j + 1)) + u' * vl 1000000000 (Y.take (j + 1)) = vl 1000000000 (E ++ [(p + u * v + c) % 1000000000]) + 1000000000 ^ (j + 1) * ((p + u * v + c) / 1000000000)),
            own_step (hown5.dN _) HEL.out (by simp; have h1 := HDL.out; omega) _ (by rw [← Int.natCast_mul]; omega), (hx5.dN _).gb (gb_set (gb_refl _ _) _ _) HAX.out, (hy5.dN _).gb (gb_set (gb_refl _ _) _ _) HAY.out, (bdN hbl5 _).setCell hgB _⟩
          case measure => simp [intOf]; omega
        · obtain rfl : j = Y.length := by omega
          have cq := hown5.cell (k + Y.length) (by rw [win_length (by simp; have h1 := HDL.out; have h2 := HEL.out; omega)]; simp; have h1 := HDL.out; omega)
          have hfr := hown5.frozen (k + Y.length)
          go_wp2
          go_roundw
          case rel =>
            have hset := hown5.set' (k + Y.length) c (yv := (c : Int)) rfl
            rw [show X.length - k = (X.length - (k + 1)) + 1 by omega, mul_row HDL.out HEL.out] at hset
            exact ⟨k + 1, D.take k ++ E ++ [c], by omega, by go_num, (by have h1 := HDL.out; have h2 := HEL.out; simp; omega : (D.take k ++ E ++ [c]).length = k + 1 + Y.length),
              (Lo_append (Lo_append (fun z hz => HDLo.out z (List.mem_of_mem_take hz)) HELo.out) (Lo_one hc) : Lo 1000000000 (D.take k ++ E ++ [c])), mul_end HDL.out hlt rfl HEL.out (HEV.out _ rfl) HDV.out, hset, hx5.gb (gb_set (gb_refl _ _) _ _) HAX.out, hy5.gb (gb_set (gb_refl _ _) _ _) HAY.out, hbl5.setCell hgB _⟩
          case measure => simp [intOf]; omega
    · obtain rfl : k = X.length := by omega
      have hP : tr (D ++ List.replicate (X.length - X.length) 0) = dg 1000000000 (vl 1000000000 l * vl 1000000000 m) := by
        rw [tr_eq (by omega) (Lo_append HDLo.out (Lo_zeros (by omega))), vl_pad, HDV.out, List.take_length, HPR.out]
      have hlen : (D ++ List.replicate (X.length - X.length) 0).length = X.length + Y.length := by simp; exact HDL.out
      have hR := trim_any (some ⟨g, 0, none⟩) (X.length + Y.length) _ wr (by rw [hlen]; omega) hownr.rd (by rw [hlen]; omega)
      have ht2 := tr_take (D ++ List.replicate (X.length - X.length) 0)
      have hown6 := hownr.take (tr (D ++ List.replicate (X.length - X.length) 0)).length (by rw [ht2]; simp; omega)
      rw [← ht2] at hown6
      rw [hP] at hR hown6
      rw [hlen] at hR
      have HR := Lib.hid hR
      clear hP hlen hR ht2 hownr
      go_wp2_with fail
      refine HR.out.mono ?_
      rintro e w4 ⟨rfl, rfl⟩
      go_wp2
      go_ret
      exact ⟨_, _, rfl, hown6, hblr⟩
end Go.Proofs.YtimfpgpomafflaaGreatDoor
