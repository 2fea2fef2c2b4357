/- Walks: Mul. -/
import Derived.Test.YtofeckdhhaoobaaDoorLimbE
namespace Go.Proofs.YtofeckdhhaoobaaDoor
open Go.RowKit LM

theorem mul_bound {p u v c : Nat} (hp : p < 1000000000) (hu : u < 1000000000) (hv : v < 1000000000) (hc : c < 1000000000) : u * v ≤ 999999998000000001 ∧ p + u * v + c ≤ 999999999999999999 ∧ (p + u * v + c) / 1000000000 < 1000000000 := by
  have h : u * v ≤ 999999999 * 999999999 := Nat.mul_le_mul (by omega) (by omega)
  have e : 999999999 * 999999999 = 999999998000000001 := by decide
  omega

set_option maxHeartbeats 8000000 in
theorem Mul_any (a b : Option Addr) (ca cb : Nat) (l m : List Nat) (w : World) (hl : l.length ≤ 1073741824) (hm : m.length ≤ 1073741824) (hlo : Lo 4294967296 l) (hmo : Lo 4294967296 m) (ha : Rd w .u32 a l) (hb : Rd w .u32 b m) :
    Calls Tryd.prog 62 #[.slice a l.length ca, .slice b m.length cb] w fun e w' => ∃ a' cap', e = .returned (.slice a' (dg 1000000000 (vl 1000000000 l * vl 1000000000 m)).length cap') ∧
      Own w' w.heap.size 50 .u32 a' cap' (dg 1000000000 (vl 1000000000 l * vl 1000000000 m)) ∧ Below w.heap.size w w' := by
  have HLO := Lib.hid hlo; have HMO := Lib.hid hmo
  have hn1 := nlen hlo
  have hn2 := nlen hmo
  clear hlo hmo
  go_enter Tryd.func62, Tryd.ntmps62
  go_wp2_with fail
  refine (Norm_any a ca l w (by omega) HLO.out ha).mono ?_
  rintro e w1 ⟨a1, c1, rfl, hown1, hb1⟩
  go_wp2_with fail
  refine (Norm_any b cb m w1 (by omega) HMO.out (hb.below hb1)).mono ?_
  rintro e w2 ⟨a2, c2, rfl, hown2, hb2⟩
  have hbl : Below w.heap.size w w2 := hb1.trans (hb2.mono hb1.size)
  have hx := (hown1.below hb2).rd
  have hy := hown2.rd
  have hapx : Apart a1 w2.heap.size := by
    intro b off e; have h1 := hb2.size
    rcases hown1.shape with ⟨h, _⟩ | ⟨g', h, _, h2, _⟩
    · rw [h] at e; cases e
    · rw [h] at e; simp at e; omega
  have hapy : Apart a2 w2.heap.size := by
    intro b off e
    rcases hown2.shape with ⟨h, _⟩ | ⟨g', h, _, h2, _⟩
    · rw [h] at e; cases e
    · rw [h] at e; simp at e; omega
  have hlx := Lo_dg (b := 1000000000) (by omega) (vl 1000000000 l)
  have hly := Lo_dg (b := 1000000000) (by omega) (vl 1000000000 m)
  have hprod : vl 1000000000 (dg 1000000000 (vl 1000000000 l)) * vl 1000000000 (dg 1000000000 (vl 1000000000 m)) = vl 1000000000 l * vl 1000000000 m := by rw [vl_dg (by omega), vl_dg (by omega)]
  have HLX := Lib.hid hlx; have HLY := Lib.hid hly; have HPR := Lib.hid hprod; have HAX := Lib.hid hapx; have HAY := Lib.hid hapy
  clear ha hb hown1 hown2 hb1 hb2 hlx hly hprod hapx hapy
  generalize dg 1000000000 (vl 1000000000 l) = X at *
  generalize dg 1000000000 (vl 1000000000 m) = Y at *
  go_wp2_with (at_make; refine wp_make _ rfl _ _ 22 rfl w2.heap.size 50 .u32 4 Tryd.underlying22 infoU32 _ _ _ _ (X.length + Y.length) rfl rfl (by omega) (by omega) (by omega) (by unfold maxLen; omega) (Nat.le_refl _) ?_)
  intro w3 hown3 hb3
  have hbl3 : Below w.heap.size w w3 := hbl.trans (hb3.mono hbl.size)
  have hx3 := hx.below hb3
  have hy3 := hy.below hb3
  have hown4 : Own w3 w.heap.size 50 .u32 (some ⟨w2.heap.size, 0, none⟩) (X.length + Y.length) (List.replicate (X.length + Y.length) 0) := hown3.mono hbl.size
  have hgB := hbl.size
  clear hown3 hb3 hx hy hbl
  generalize w2.heap.size = g at *
  go_wp2_with fail
  go_loopw [24] (fun i wr => ∃ (k : Nat) (D : List Nat), k ≤ X.length ∧ i = .int .i64 k ∧ Hid (D.length = k + Y.length) ∧ Hid (Lo 1000000000 D) ∧ Hid (vl 1000000000 D = vl 1000000000 (X.take k) * vl 1000000000 Y) ∧
      Own wr w.heap.size 50 .u32 (some ⟨g, 0, none⟩) (X.length + Y.length) (D ++ List.replicate (X.length - k) 0) ∧ Rd wr .u32 a1 X ∧ Rd wr .u32 a2 Y ∧ Below w.heap.size w wr) (fun i _ => X.length - (intOf i).toNat)
  case atStart => exact ⟨0, List.replicate Y.length 0, Nat.zero_le _, rfl, (by simp : (List.replicate Y.length 0).length = 0 + Y.length), (Lo_zeros (by omega)), (by rw [vl_zeros]; simp [vl] : vl 1000000000 (List.replicate Y.length 0) = vl 1000000000 (X.take 0) * vl 1000000000 Y), by rw [List.replicate_append_replicate, Nat.sub_zero, Nat.add_comm Y.length]; exact hown4, hx3, hy3, hbl3⟩
  case round =>
    obtain ⟨k, D, hk, rfl, HDL, HDLo, HDV, hownr, hxr, hyr, hblr⟩ := hrel
    by_cases hlt : k < X.length
    · have HOWN := Lib.hid hownr
      clear hown4 hownr
      go_wp2_with fail
      go_loopw [9, 29] (fun s9 i ws => ∃ (j c : Nat) (E : List Nat), j ≤ Y.length ∧ i = .int .i64 j ∧ s9 = .int .u64 c ∧ c < 1000000000 ∧ Hid (E.length = j) ∧ Hid (Lo 1000000000 E) ∧
          Hid (∀ u, u = X[k]?.getD 0 → vl 1000000000 ((D.drop k).take j) + u * vl 1000000000 (Y.take j) = vl 1000000000 E + 1000000000 ^ j * c) ∧
          Own ws w.heap.size 50 .u32 (some ⟨g, 0, none⟩) (X.length + Y.length) (win (D ++ List.replicate (X.length - k) 0) E k) ∧ Rd ws .u32 a1 X ∧ Rd ws .u32 a2 Y ∧ Below w.heap.size w ws) (fun _ i _ => Y.length - (intOf i).toNat)
      case atStart => exact ⟨0, 0, [], Nat.zero_le _, rfl, rfl, by omega, (rfl : ([] : List Nat).length = 0), Lo_nil _, (by intro u _; simp [vl] : ∀ u, u = X[k]?.getD 0 → vl 1000000000 ((D.drop k).take 0) + u * vl 1000000000 (Y.take 0) = vl 1000000000 [] + 1000000000 ^ 0 * 0), by rw [win_nil]; exact HOWN.out, hxr, hyr, hblr⟩
      case round =>
        obtain ⟨j, c, E, hj, rfl, rfl, hc, HEL, HELo, HEV, hown5, hx5, hy5, hbl5⟩ := hrel
        by_cases hjt : j < Y.length
        · obtain ⟨b1, o1, u, e1, HU, hu, cu⟩ := hx5.get HLX.out k hlt
          obtain ⟨b2, o2, v, e2, HV, hv, cv⟩ := hy5.get HLY.out j hjt
          have cp := hown5.cell (k + j) (by rw [win_length (by simp; have h1 := HDL.out; have h2 := HEL.out; omega)]; simp; have h1 := HDL.out; omega)
          rw [mul_get HDL.out HEL.out hjt] at cp
          have hp : D[k + j]?.getD 0 < 1000000000 := Lo_get HDLo.out (by omega) _
          obtain ⟨p, hpe⟩ : ∃ p, p = D[k + j]?.getD 0 := ⟨_, rfl⟩
          rw [← hpe] at cp hp
          have HP := Lib.hid hpe
          have hfr := hown5.frozen (k + j)
          obtain ⟨hm1, hm2, hm3⟩ := mul_bound hp hu hv hc
          have hi0 : (0 : Int) ≤ (u : Int) * (v : Int) := by rw [← Int.natCast_mul]; omega
          have hi1 : (u : Int) * (v : Int) ≤ 999999998000000001 := by rw [← Int.natCast_mul]; omega
          have hi2 : (p : Int) + (u : Int) * (v : Int) + (c : Int) ≤ 999999999999999999 := by rw [← Int.natCast_mul]; omega
          subst e1 e2
          clear hpe
          go_wp2_with fail
          go_quiet (fail)
          go_wp2
          go_roundw
          case rel => exact ⟨j + 1, (p + u * v + c) / 1000000000, E ++ [(p + u * v + c) % 1000000000], by omega, by go_num, by rw [← Int.natCast_mul]; go_num, hm3, (by rw [List.length_append, HEL.out]; rfl : (E ++ [(p + u * v + c) % 1000000000]).length = j + 1), (Lo_append HELo.out (Lo_one (by omega)) : Lo 1000000000 (E ++ [(p + u * v + c) % 1000000000])),
            (fun u' hu' => mul_step (by have h1 := HDL.out; omega) HEL.out HP.out HV.out hjt (HEV.out u' hu') (by rw [hu', ← HU.out]) : ∀ u', u' = X[k]?.getD 0 → vl 1000000000 ((D.drop k).take (j + 1)) + u' * vl 1000000000 (Y.take (j + 1)) = vl 1000000000 (E ++ [(p + u * v + c) % 1000000000]) + 1000000000 ^ (j + 1) * ((p + u * v + c) / 1000000000)),
            own_step (hown5.dN _) HEL.out (by simp; have h1 := HDL.out; omega) _ (by rw [← Int.natCast_mul]; omega), (hx5.dN _).gb (gb_set (gb_refl _ _) _ _) HAX.out, (hy5.dN _).gb (gb_set (gb_refl _ _) _ _) HAY.out, (bdN hbl5 _).setCell hgB _⟩
          case measure => simp [intOf]; omega
        · obtain rfl : j = Y.length := by omega
          have cq := hown5.cell (k + Y.length) (by rw [win_length (by simp; have h1 := HDL.out; have h2 := HEL.out; omega)]; simp; have h1 := HDL.out; omega)
          have hfr := hown5.frozen (k + Y.length)
          go_wp2
          go_roundw
          case rel =>
            have hset := hown5.set' (k + Y.length) c (yv := (c : Int)) rfl
            rw [show X.length - k = (X.length - (k + 1)) + 1 by omega, mul_row HDL.out HEL.out] at hset
            exact ⟨k + 1, D.take k ++ E ++ [c], by omega, by go_num, (by have h1 := HDL.out; have h2 := HEL.out; simp; omega : (D.take k ++ E ++ [c]).length = k + 1 + Y.length),
              (Lo_append (Lo_append (fun z hz => HDLo.out z (List.mem_of_mem_take hz)) HELo.out) (Lo_one hc) : Lo 1000000000 (D.take k ++ E ++ [c])), mul_end HDL.out hlt rfl HEL.out (HEV.out _ rfl) HDV.out, hset, hx5.gb (gb_set (gb_refl _ _) _ _) HAX.out, hy5.gb (gb_set (gb_refl _ _) _ _) HAY.out, hbl5.setCell hgB _⟩
          case measure => simp [intOf]; omega
    · obtain rfl : k = X.length := by omega
      have hP : tr (D ++ List.replicate (X.length - X.length) 0) = dg 1000000000 (vl 1000000000 l * vl 1000000000 m) := by
        rw [tr_eq (by omega) (Lo_append HDLo.out (Lo_zeros (by omega))), vl_pad, HDV.out, List.take_length, HPR.out]
      have hlen : (D ++ List.replicate (X.length - X.length) 0).length = X.length + Y.length := by simp; exact HDL.out
      have hR := trim_any (some ⟨g, 0, none⟩) (X.length + Y.length) _ wr (by rw [hlen]; omega) hownr.rd (by rw [hlen]; omega)
      have ht2 := tr_take (D ++ List.replicate (X.length - X.length) 0)
      have hown6 := hownr.take (tr (D ++ List.replicate (X.length - X.length) 0)).length (by rw [ht2]; simp; omega)
      rw [← ht2] at hown6
      rw [hP] at hR hown6
      rw [hlen] at hR
      have HR := Lib.hid hR
      clear hP hlen hR ht2 hownr
      go_wp2_with fail
      refine HR.out.mono ?_
      rintro e w4 ⟨rfl, rfl⟩
      go_wp2
      go_ret
      exact ⟨_, _, rfl, hown6, hblr⟩
end Go.Proofs.YtofeckdhhaoobaaDoor
