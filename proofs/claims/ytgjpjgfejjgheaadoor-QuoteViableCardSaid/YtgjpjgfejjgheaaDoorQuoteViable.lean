/- Walk of the law QuoteViable. -/
import Derived.Test.YtgjpjgfejjgheaaDoorQuoS
import Derived.Test.YtgjpjgfejjgheaaDoorQuoZ
namespace Go.Proofs.YtgjpjgfejjgheaaDoor
open Go.RowKit UM QM

theorem Tl.len {l : List Nat} {k : Nat} {xs : List Int} {e err : Nat} (t : Tl l k xs e err) : k + xs.length ≤ e := by
  induction t with
  | stop hp => simp
  | bad h h2 => exact piece_ge
  | go hp h2 t ih =>
    have := piece_adv h2 (pk_ne h2)
    rw [List.length_cons]; omega
theorem Tl.wide {l : List Nat} {k : Nat} {xs : List Int} {e err : Nat} (t : Tl l k xs e err) : ∀ ps : List Nat, xs = toI ps → k + (encL ps).length ≤ e := by
  induction t with
  | stop hp =>
    intro ps h
    have : ps = [] := by cases ps with | nil => rfl | cons => cases h
    subst this
    exact Nat.le_succ _
  | bad h h2 =>
    intro ps h
    have : ps = [] := by cases ps with | nil => rfl | cons => cases h
    subst this
    exact piece_ge
  | go hp h2 t ih =>
    intro ps h
    cases ps with
    | nil => cases h
    | cons q qs =>
      simp only [toI, List.map_cons, List.cons.injEq] at h
      have h3 := piece_wide h2 h.1
      have h4 := ih qs h.2
      rw [encL_cons, List.length_append, enc_len]
      omega
theorem Rd.takeN {w : World} {k : IntKind} {a : Option Addr} {l : List Nat} (h : Rd w k a l) (n : Nat) : Rd w k a (l.take n) := by
  intro j hj
  rw [List.length_take] at hj
  obtain ⟨b, off, e, hc⟩ := h j (by omega)
  refine ⟨b, off, e, ?_⟩
  rw [List.getElem?_take, if_pos (by omega)]; exact hc
theorem lo_take {l : List Nat} (h : LM.Lo 256 l) (n : Nat) : LM.Lo 256 (l.take n) := fun x hx => h x (List.mem_of_mem_take hx)
theorem lo_snoc {l : List Nat} (h : LM.Lo 256 l) {c : Nat} (hc : c < 256) : LM.Lo 256 (l ++ [c]) := fun x hx => by
  rcases List.mem_append.1 hx with h' | h'
  · exact h x h'
  · rw [List.mem_singleton.1 h']; exact hc
set_option maxRecDepth 100000 in
set_option maxHeartbeats 4000000 in
theorem viable_walk {a : Option Addr} {cap c : Nat} {l : List Nat} (w : World) (ht : Sh w) (hl : l.length ≤ 140737488351232) (hlo : LM.Lo 256 l) (hcp : l.length ≤ cap) (hr : Rd w .u8 a l) (hnil : a = none → l.length = 0 ∧ cap = 0) (hc : c < 256) : Calls Tryd.prog 6 #[.slice a l.length cap, .int .u8 c] w fun r w' => r = .returned (.bool true) ∧ Below w.heap.size w w' := by
  have HT := Lib.hid ht; have HR := Lib.hid hr; have HLO := Lib.hid hlo; have HNIL := Lib.hid hnil
  clear ht hr hnil
  go_enter Tryd.func6, Tryd.ntmps6
  go_wp2_with fail
  refine (shown_any _ HT.out).mono ?_
  rintro r w1 ⟨rfl, hb⟩
  have G1 : Hid (Goes w w1) := Lib.hid ⟨hb, HT.out.below hb⟩
  have R1 := Lib.hid (HR.out.below hb)
  clear hb
  go_wp2_with fail
  refine (Read_any a cap l w1 (by omega) hlo R1.out G1.out.2 hcp).mono ?_
  rintro r w2 ⟨ps, n, err, hps, hf, rfl, hb⟩
  have G2 := Lib.hid (G1.out.next hb)
  have R2 := Lib.hid (R1.out.below hb)
  have hrd := RdR.of hf
  clear hb hf hlo
  have hn := hrd.fin
  have hn1 : ¬ (l.length : Int) < (n : Int) := by omega
  have hn2 : (n : Int) ≤ (cap : Int) := by omega
  have hn3 : n ≤ cap := by omega
  have hm : n = (l.take n).length := by rw [List.length_take]; omega
  have HM := Lib.hid hm
  have O0 : Hid (Own (w2.alloc (.cells #[] 5)) w2.heap.size 5 .u8 (some ⟨w2.heap.size, 0, none⟩) 0 []) := Lib.hid (World.ownsRow_lit w2 #[] 0 (Nat.le_refl _) (by decide) rfl)
  have B0 : Below w2.heap.size w2 (w2.alloc (.cells #[] 5)) := (Below.refl _ _).alloc (Nat.le_refl _) _
  have G3 := Lib.hid (G2.out.next B0)
  have R3 := Lib.hid ((R2.out.below B0).takeN n)
  have B3 := Lib.hid B0
  have HPS := Lib.hid hps
  clear B0 hm hps
  by_cases he : err = 0
  · subst he
    have HRD := Lib.hid hrd
    have hpos : 0 < l.length := by
      rcases hrd with ⟨_, _, _, e⟩ | ⟨e, _⟩
      · exact absurd e.symm (fault_ne _ _)
      · exact pk_pos (by rw [e]; decide)
    have hel : (encL ps).length ≤ 140737488351232 := by
      rcases hrd with ⟨_, _, _, e⟩ | ⟨_, t⟩
      · exact absurd e.symm (fault_ne _ _)
      · have := t.wide ps rfl
        omega
    obtain ⟨b0, off0, rfl, _⟩ := R2.out 0 hpos
    have HV := Lib.hid (fun W (g : Sh W) => Valid_any (tx (encL ps)) W (by rw [tx_size]; omega) g)
    unfold ResV at HV
    rw [bl_tx (encL_lo HPS.out), vd_enc HPS.out] at HV
    have hts := tx_size (encL ps)
    have HEL := Lib.hid hel
    clear hrd hel
    go_wp2_with (first | (refine wp_apps (k := .u8) w3 rfl _ _ 26 rfl w2.heap.size 5 1 Tryd.underlying26 infoU8 a3 c3 _ ([] ++ l.take n) L3.out.symm rfl [c] (by simp) _ rfl _ _ rfl rfl O3.out (by rw [L3.out]; simp; omega) (by rw [L3.out]; unfold maxLen; simp; omega) B4.out.size ?_; intro a4 c4 w4 h1 h2 _; have O4 := Lib.hid h1; have B5 := Lib.hid (B4.out.trans h2); clear h1 h2) | (refine wp_ownarg (w2.alloc (.cells #[] 5)) rfl _ _ 26 rfl w2.heap.size 5 Tryd.underlying26 infoU8 _ 0 _ [] rfl rfl O0.out (by simp) (some ⟨b0, off0, none⟩) _ cap (l.take n) HM.out rfl R3.out (fun h => by cases h) (by rw [← HM.out]; simp; omega) ?_; intro a3 c3 w3 h1 h2; have O3 := Lib.hid h1; have B4 := Lib.hid (B3.out.trans (h2.mono (Nat.le_refl _))); have L3 : Hid (([] ++ l.take n).length = n) := Lib.hid HM.out.symm; clear h1 h2))
    have G5 := Lib.hid (G2.out.next B5.out)
    have ho : Own w4 w2.heap.size 5 .u8 a4 c4 (l.take n ++ [c]) := O4.out
    have hl2 : (l.take n ++ [c]).length = n + 1 := by rw [List.length_append, ← HM.out, List.length_singleton]
    have hR := Read_of (HRD.out.again c) (by rw [hl2]; omega) (lo_snoc (lo_take HLO.out n) hc) ho.rd G5.out.2 ho.cap.1
    rw [hl2] at hR
    unfold ResRv at hR
    have HR2 := Lib.hid hR
    clear hR ho hl2
    refine HR2.out.mono ?_
    rintro r w5 ⟨rfl, hb⟩
    have G6 := Lib.hid (G5.out.next hb)
    clear hb
    go_wp2_with fail
    refine (HV.out _ G6.out.2).mono ?_
    rintro r w6 ⟨rfl, hb⟩
    have G7 := Lib.hid (G6.out.next hb)
    clear hb
    go_wp2
    go_ret
    exact ⟨rfl, G7.out.1⟩
  · have hup := hrd.upto he hn
    have HU := Lib.hid (show RdR (l.take n) (toI ps) n 5 from hup)
    have he1 : ((err : Int) == 0) = false := by simp [he]
    have HSH := Lib.hid hrd.short
    rw [if_neg he]
    clear hup hrd
    rcases a with _ | ad
    · obtain ⟨z1, rfl⟩ := HNIL.out rfl
      have hn0 : n = 0 := by omega
      subst hn0
      have hR := Read_of (HU.out) (by rw [← HM.out]; omega) (lo_take HLO.out 0) (by rw [List.take_zero]; exact O0.out.rd) G3.out.2 (by rw [← HM.out]; exact Nat.le_refl 0)
      rw [← HM.out] at hR
      unfold ResRv at hR
      have HR2 := Lib.hid hR
      clear hR
      go_wp2_with fail
      refine HR2.out.mono ?_
      rintro r w5 ⟨rfl, hb⟩
      have G6 := Lib.hid (G3.out.next hb)
      clear hb
      by_cases h5 : err = 5
      · subst h5
        go_wp2
        go_ret
        exact ⟨rfl, G6.out.1⟩
      · have h5b : ((err : Int) == 5) = false := by simp; omega
        go_wp2
        go_ret
        exact ⟨rfl, G6.out.1⟩
    · go_wp2_with (refine wp_ownarg (w2.alloc (.cells #[] 5)) rfl _ _ 26 rfl w2.heap.size 5 Tryd.underlying26 infoU8 _ 0 _ [] rfl rfl O0.out (by simp) (some ad) _ cap (l.take n) HM.out rfl R3.out (fun h => by cases h) (by rw [← HM.out]; simp; omega) ?_; intro a3 c3 w3 h1 h2; have O3 := Lib.hid h1; have B4 := Lib.hid (B3.out.trans (h2.mono (Nat.le_refl _))); have L3 : Hid (([] ++ l.take n).length = n) := Lib.hid HM.out.symm; clear h1 h2)
      have G5 := Lib.hid (G2.out.next B4.out)
      have ho : Own w3 w2.heap.size 5 .u8 a3 c3 (l.take n) := O3.out
      have hR := Read_of (HU.out) (by rw [← HM.out]; omega) (lo_take HLO.out n) ho.rd G5.out.2 ho.cap.1
      rw [← HM.out] at hR
      unfold ResRv at hR
      have HR2 := Lib.hid hR
      clear hR ho
      refine HR2.out.mono ?_
      rintro r w5 ⟨rfl, hb⟩
      have G6 := Lib.hid (G5.out.next hb)
      clear hb
      by_cases h5 : err = 5
      · have hnl := HSH.out h5
        subst h5
        have hnl' : (n : Int) = (l.length : Int) := by omega
        have hnb : ((n : Int) != (l.length : Int)) = false := by simp; omega
        clear hnl
        go_wp2
        go_ret
        exact ⟨rfl, G6.out.1⟩
      · have h5b : ((err : Int) == 5) = false := by simp; omega
        go_wp2
        go_ret
        exact ⟨rfl, G6.out.1⟩
theorem viable_row {a : Option Addr} {len cap : Nat} {x : Int} (w : World) (ht : Sh w) (hb : IsBytes w a len cap) (hl : len ≤ 140737488351232) (hx : (Lit.int .u8 x).wf = true) : Calls Tryd.prog 6 #[.slice a len cap, .int .u8 x] w fun r w' => r = .returned (.bool true) ∧ Below w.heap.size w w' := by
  obtain ⟨l, rfl, h2, h3, h4, h5⟩ := hb
  have hx2 := bounds_u8 hx
  have e : x = ((x.toNat : Nat) : Int) := by omega
  rw [e]
  exact viable_walk w ht hl h3 h4 h2 h5 (by omega)
end Go.Proofs.YtgjpjgfejjgheaaDoor
