/- ParensRanks walked. -/
import Derived.Test.YtelagemniheeoaaDoorParU
import Derived.Test.YtelagemniheeoaaDoorParY
import Derived.Test.YtelagemniheeoaaDoorParQk
namespace Go.Proofs.YtelagemniheeoaaDoor
open Go.RowKit BM

theorem newN_small' {l : Nat} (h : ¬ 12 < l) (n : Int) : newN l n ≤ 768 := by unfold newN; omega
theorem OwnV.none_nil {w : World} {B : Nat} {e : TypeId} {size : Nat} {a : Option Addr} {n cap : Nat} {xs : List Value} (h : OwnV w B e size a n cap xs) (ha : a = none) : n = 0 ∧ cap = 0 := by
  rcases h.shape with ⟨_, h1, h2, _⟩ | ⟨g, _, h1, _⟩
  · exact ⟨h2, h1⟩
  · rw [h1] at ha; cases ha
set_option maxRecDepth 100000 in
set_option maxHeartbeats 8000000 in
theorem ranks_walk (a : Option Addr) (cap : Nat) (bits : List (BitVec 64)) (n i : Int) (w : World) (hT : Tb w) (hr : RdV w a (wv8 bits)) (h0 : a = none → bits = [] ∧ cap = 0) (hcap : bits.length ≤ cap) (hl : bits.length ≤ 17592186044416) (hn : -9223372036854775808 ≤ n ∧ n ≤ 9223372036854775807) (hi : -9223372036854775808 ≤ i ∧ i ≤ 9223372036854775807) :
    Calls Tryd.prog 3 #[.slice a bits.length cap, .int .i64 n, .int .i64 i] w (ResB true w) := by
  have HSH := Lib.hid (shown_any w hT)
  have HGR := Lib.hid (fun W => great_any a bits.length cap W)
  have HT := Lib.hid hT
  by_cases hg : 12 < bits.length
  · have hgb : greatB bits.length = true := by unfold greatB; simpa using hg
    rw [hgb] at HGR
    clear hr h0 hcap hl hn hT hgb hg
    go_enter Tryd.func3, Tryd.ntmps3
    go_wp2_with fail
    refine HSH.out.mono ?_
    rintro r w1 ⟨rfl, hb1⟩
    go_wp2_with fail
    refine (HGR.out w1).mono ?_
    rintro r w2 ⟨rfl, rfl⟩
    go_wp2
    go_ret
    exact ⟨rfl, hb1⟩
  · have hgb : greatB bits.length = false := by unfold greatB; simpa using hg
    have hsm := newN_small' hg n
    have HMK := Lib.hid (fun W (hb : Below w.heap.size w W) => Make_any a cap bits n W (hr.below hb) (by omega) hn)
    have HRB := Lib.hid (fun W (hb : Below w.heap.size w W) => hr.below hb)
    have H0 := Lib.hid (fun (h : a = none) => (⟨by rw [(h0 h).1]; rfl, (h0 h).2⟩ : wv8 bits = [] ∧ cap = 0))
    have hwl : (wv8 bits).length = bits.length := by simp [wv8]
    have HWL := Lib.hid hwl
    rw [hgb] at HGR
    have hl12 : bits.length ≤ 12 := by omega
    clear hr h0 hcap hl hT hgb hg hwl
    go_enter Tryd.func3, Tryd.ntmps3
    go_wp2_with fail
    refine HSH.out.mono ?_
    rintro r w1 ⟨rfl, hb1⟩
    go_wp2_with fail
    refine (HGR.out w1).mono ?_
    rintro r w2 ⟨rfl, rfl⟩
    have hz1 := hb1.size
    have o0 : OwnV (w1.alloc (.cells #[] 27)) w.heap.size 27 1 (some ⟨w1.heap.size, 0, none⟩) 0 0 [] := OwnV.mono (World.ownsRow_lit (base := w1.heap.size) w1 #[] 0 (Nat.le_refl _) (by decide) rfl) hz1
    have bA := (Below.refl w1.heap.size w1).alloc (Nat.le_refl _) (.cells #[] 27)
    have B2 := Lib.hid (hb1.trans (bA.mono hz1))
    have R2 := Lib.hid (HRB.out _ B2.out)
    have O0 := Lib.hid o0
    have hz2 := B2.out.size
    clear o0 bA
    go_wp2_with (refine wp_copyP (w1.alloc (.cells #[] 27)) rfl _ _ 22 rfl w.heap.size 27 _ 8 Tryd.underlying22 infoU64P rfl _ a 0 cap bits.length (wv8 bits) HWL.out.symm rfl rfl O0.out R2.out (wv8_one bits) H0.out (by rw [HWL.out]; omega) (by rw [HWL.out]; unfold maxLen; omega) hz2 ?_; intro ao cp w3 h1 h2; have OW := Lib.hid h1; have B3 := Lib.hid (B2.out.trans h2); clear h1 h2)
    have hN := Newk_any ao cp bits n w3 OW.out.rdV (fun h => by obtain ⟨h1, h2⟩ := OW.out.none_nil h; exact ⟨List.eq_nil_of_length_eq_zero h1, h2⟩) (OwnV.cap OW.out).1 (by omega) hn
    have hgx : ∃ g, g < w3.heap.size ∧ (ao = some ⟨g, 0, none⟩ ∨ bits.length = 0) := by
      rcases OW.out.shape with ⟨_, _, h, _⟩ | ⟨g, cur, h1, _, hg, _⟩
      · exact ⟨0, (HT.out.below B3.out).pos, Or.inr h⟩
      · exact ⟨g, (Array.getElem?_eq_some_iff.1 hg).1, Or.inl h1⟩
    obtain ⟨g, hg3, hga⟩ := hgx
    refine hN.mono ?_
    rintro r w4 ⟨vb, v, rfl, hV, hvn, hvf, -, hb4, hkp⟩
    have hvs : v.n ≤ 768 := by rw [hvn]; exact hsm
    have B4 := Lib.hid (B3.out.trans (hb4.mono B3.out.size))
    have O4 := Lib.hid (OW.out.below hb4)
    have HKP := Lib.hid (fun W (hO : Oth w4 W (some ⟨g, 0, none⟩)) => (⟨hkp W g hO hg3, hV.2⟩ : VX0 W vb v))
    have HVN := Lib.hid hvn
    have HAG : Hid (Agr v.f (BM.wb bits) v.n) := Lib.hid hvf
    have HGA := Lib.hid hga
    clear hN hV hvn hvf hb4 hkp hga OW B3 hg3
    go_wp2_with fail
    go_loopw [10] (fun s10 wr => ∃ (k : Nat) (xs : List Value), s10 = .int .i64 k ∧ k ≤ bits.length ∧ Hid (OwnV wr w.heap.size 27 1 ao bits.length cp xs) ∧ Hid (∀ j, k ≤ j → xs[j]? = (wv8 bits)[j]?) ∧ Hid (Oth w4 wr (some ⟨g, 0, none⟩)) ∧ Hid (Below w.heap.size w wr)) (fun s10 _ => bits.length - (intOf s10).toNat)
    case atStart => exact ⟨0, _, rfl, by omega, O4, Lib.hid (fun _ _ => rfl), Lib.hid (Oth.ofBelow (Below.refl _ _) _), B4⟩
    case round =>
      obtain ⟨k, xs, rfl, hk, HO, HXS, HOT, BR⟩ := hrel
      by_cases hlt : k < bits.length
      · have hae : ao = some ⟨g, 0, none⟩ := by
          rcases HGA.out with h | h
          · exact h
          · omega
        obtain ⟨x, hx⟩ : ∃ x, bits[k]? = some x := ⟨_, List.getElem?_eq_getElem hlt⟩
        have hxk := HXS.out k (Nat.le_refl _)
        rw [wv8_get hx] at hxk
        have ho := HO.out
        have hgB : w.heap.size ≤ g := by
          rcases ho.shape with ⟨h, _⟩ | ⟨g', _, h, hb, _⟩
          · rw [h] at hae; cases hae
          · rw [h] at hae; simp at hae; omega
        subst hae
        have c0 := ho.cellAt hxk
        have f0 := ho.frozen k
        clear ho hx hxk
        go_wp2
        go_roundw
        case rel =>
          refine ⟨k + 1, _, by go_num, by omega, Lib.hid (HO.out.set k _), Lib.hid (fun j hj => by rw [List.getElem?_set_ne (by omega)]; exact HXS.out j (by omega)), Lib.hid (HOT.out.trans (Oth.setCell wr g k _) (Or.inl rfl)), Lib.hid (Below.setCell (p := ⟨g, k, none⟩) BR.out hgB _)⟩
        case measure => simp [intOf]; omega
      · have HVR := Lib.hid (fun W (hb : Below wr.heap.size wr W) => (⟨(HKP.out wr HOT.out).1.below hb, (HKP.out wr HOT.out).2⟩ : VX0 W vb v))
        have hmk := HMK.out wr BR.out
        rw [← HVN.out] at hmk
        have HMK2 := Lib.hid hmk
        clear hmk
        go_wp2_with fail
        refine HMK2.out.mono ?_
        rintro r w5 ⟨ra, rc, rfl, hrf, hb5⟩
        have HRF := Lib.hid (fun W (hb : Below w5.heap.size w5 W) => hrf.below hb)
        have BR5 := Lib.hid (BR.out.trans (hb5.mono BR.out.size))
        have HV5 := Lib.hid (fun W (hb : Below w5.heap.size w5 W) => HVR.out W (hb5.trans (hb.mono hb5.size)))
        have HLn := Lib.hid (fun W hb => Len_any _ v.n W (HV5.out W hb).1.len)
        have HO1 := Lib.hid (fun W hb => by have h := Opens_any vb v i W (HV5.out W hb).1 (HV5.out W hb).2.1.1; rw [HAG.out.opn] at h; exact h)
        have HO2 := Lib.hid (fun W hb => ROpens_any ra rc (BM.wb bits) v.n i W (HRF.out W hb) hvs)
        have HR1 := Lib.hid (fun W hb => by have h := Rank_any vb v i W (HV5.out W hb).1 (HV5.out W hb).2.1.1; rw [HAG.out.rk (clp_le _ _)] at h; exact h)
        have HR2 := Lib.hid (fun W hb => RRank_any ra rc (BM.wb bits) v.n i W (HRF.out W hb) hvs)
        have HE1 := Lib.hid (fun W hb => by have h := Excess_any vb v i W (HV5.out W hb).1 (HV5.out W hb).2.1.1; rw [HAG.out.ex (clp_le _ _)] at h; exact h)
        have HE2 := Lib.hid (fun W hb => RExcess_any ra rc (BM.wb bits) v.n i W (HRF.out W hb) hvs)
        have HS1 := Lib.hid (fun W (hb : Below w5.heap.size w5 W) => by have h := Select_any vb v i W (HT.out.below (BR5.out.trans (hb.mono BR5.out.size))) (HV5.out W hb); rw [HAG.out.sel] at h; exact h)
        have HS2 := Lib.hid (fun W hb => RSelect_any ra rc (BM.wb bits) v.n i W (HRF.out W hb) hvs hi)
        have b5 := Below.refl w5.heap.size w5
        clear hrf hb5
        go_wp2_with fail
        refine (HLn.out w5 b5).mono ?_
        rintro r w6 ⟨rfl, rfl⟩
        go_wp2_with fail
        refine (HO1.out w5 b5).mono ?_
        rintro r w6 ⟨rfl, rfl⟩
        go_wp2_with fail
        refine (HO2.out w5 b5).mono ?_
        rintro r w6 ⟨rfl, rfl⟩
        go_wp2_with fail
        refine (HR1.out w5 b5).mono ?_
        rintro r w6 ⟨rfl, m6, rfl⟩
        have b6 := bdN b5 m6
        generalize w5.drewN m6 = w6 at *
        go_wp2_with fail
        refine (HR2.out w6 b6).mono ?_
        rintro r w7 ⟨rfl, rfl⟩
        go_wp2_with fail
        refine (HE1.out w6 b6).mono ?_
        rintro r w7 ⟨rfl, m7, rfl⟩
        have b7 := bdN b6 m7
        generalize w6.drewN m7 = w7 at *
        go_wp2_with fail
        refine (HE2.out w7 b7).mono ?_
        rintro r w8 ⟨rfl, rfl⟩
        go_wp2_with fail
        refine (HS1.out w7 b7).mono ?_
        rintro r w8 ⟨rfl, hb8⟩
        have b8 := b7.trans (hb8.mono b7.size)
        go_wp2_with fail
        refine (HS2.out w8 b8).mono ?_
        rintro r w9 ⟨rfl, rfl⟩
        go_wp2
        go_ret
        exact ⟨rfl, BR5.out.trans (b8.mono BR5.out.size)⟩
end Go.Proofs.YtelagemniheeoaaDoor
