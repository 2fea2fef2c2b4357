/- The document's Written. -/
import Derived.Test.YtmiiekkmpkfnhaaDoorQuoK
namespace Go.Proofs.YtmiiekkmpkfnhaaDoor
open Go.RowKit UM QM

theorem flat_next {asc : Bool} {ps : List Nat} {k : Nat} (hk : k < ps.length) : [34] ++ (ps.take k).flatMap (pieceW asc) ++ pieceW asc (ps[k]?.getD 0) = [34] ++ (ps.take (k + 1)).flatMap (pieceW asc) := by
  rw [List.take_succ_eq_append_getElem hk, List.flatMap_append, List.getElem?_eq_getElem hk, Option.getD_some]
  simp
theorem cat2 (a b c : List Nat) : Value.string (tx a ++ tx b ++ tx c) = Value.string (tx (a ++ (b ++ c))) := by rw [tx_app', tx_app', List.append_assoc]
theorem cat4 (a b c d e : List Nat) : Value.string (tx a ++ tx b ++ tx c ++ tx d ++ tx e) = Value.string (tx (a ++ (b ++ c ++ (d ++ e)))) := by
  rw [tx_app', tx_app', tx_app', tx_app']; simp
set_option maxRecDepth 100000 in
set_option maxHeartbeats 4000000 in
theorem RWritten_any (asc : Bool) (s : ByteArray) (w : World) (hs : s.size ≤ 1000000000000) : Calls Tryd.prog 9 #[.string s, .bool asc] w (ResT (wrt asc (xp (bl s))) w) := by
  have HX := Lib.hid (RExplode_any s w (by omega))
  have hxl : (xp (bl s)).length ≤ s.size := by rw [← bl_len s]; exact xp_le _
  have hpts := Lib.hid (xp_pts (bl s))
  generalize xp (bl s) = ps at *
  go_enter Tryd.func9, Tryd.ntmps9
  go_wp2_with fail
  refine HX.out.mono ?_
  rintro r w1 ⟨a, c, rfl, ho, hb⟩
  have HR := Lib.hid ho.rd; have B1 := Lib.hid hb
  clear ho hb HX
  go_wp2
  go_loopw [6, 7] (fun v6 v7 wr => ∃ (k : Nat) (L : List Nat), k ≤ ps.length ∧ v7 = .int .i64 k ∧ v6 = .string (tx L) ∧ Hid (L = [34] ++ (ps.take k).flatMap (pieceW asc)) ∧ Hid (Rd wr .i64 a ps) ∧ Hid (Below w.heap.size w wr)) (fun _ v7 _ => ps.length - (intOf v7).toNat)
  case atStart => exact ⟨0, [34], by omega, rfl, rfl, Lib.hid rfl, HR, B1⟩
  case round =>
    obtain ⟨k, L, hk, rfl, rfl, HL, HRr, HB⟩ := hrel
    by_cases hlt : k < ps.length
    · obtain ⟨bb, off, rfl, hcell⟩ := HRr.out k hlt
      have hst := flat_next (asc := asc) hlt
      rw [← HL.out] at hst
      have hLl : L.length ≤ 20000000000000 := by
        have := flat_len asc (ps.take k)
        rw [HL.out, List.length_append, List.length_singleton]
        rw [List.length_take] at this; omega
      have hpt : Pt (ps[k]?.getD 0) := by
        rw [List.getElem?_eq_getElem hlt, Option.getD_some]
        exact hpts.out _ (List.getElem_mem hlt)
      obtain ⟨p, hp⟩ : ∃ p, p = ps[k]?.getD 0 := ⟨_, rfl⟩
      rw [← hp] at hst hpt hcell
      have HLt := Lib.hid (fun W => Rletter_any p hpt.1 W)
      have hB := fun W => Bytes_any p W hpt.1
      unfold ResB at hB
      have HBy := Lib.hid hB
      have hp1 := hpt.1
      have hel := (en_pos p).2
      rw [← enc_len] at hel
      obtain ⟨FL, hFL⟩ : ∃ FL, FL = [34] ++ (ps.take (k + 1)).flatMap (pieceW asc) := ⟨_, rfl⟩
      rw [← hFL] at hst
      have HFL := Lib.hid hFL
      clear hFL
      unfold pieceW at hst
      have htlo := letF_lo p
      generalize letF p = t at *
      generalize enc p = m at *
      have hts := fun l => tx_size l
      clear hp hpt hB
      by_cases ht0 : t = 0
      · subst ht0
        rw [if_neg (by simp)] at hst
        by_cases c1 : p < 32 ∨ p = 127
        · rw [if_pos c1] at hst
          by_cases c2 : p < 32
          · have c2' : (p : Int) < 32 := by omega
            clear c1
            have hh : (hx4 p).length = 4 := rfl
            have HH := Lib.hid (fun W => RHex_any p (by omega) W)
            have HST := Lib.hid hst
            clear hst
            unfold uni at HST
            generalize hx4 p = h at *
            go_wp2_with fail
            refine (HLt.out _).mono ?_
            rintro r w2 ⟨rfl, hb⟩
            have B2 := Lib.hid (HB.out.trans (hb.mono HB.out.size)); have R2 := Lib.hid (HRr.out.below hb)
            clear hb
            go_wp2_with fail
            refine (HH.out _).mono ?_
            rintro r w3 ⟨rfl, rfl⟩
            go_wp2
            go_roundw
            case rel => exact ⟨k + 1, L ++ ([92, 117] ++ h), by omega, by go_num, cat2 L [92, 117] h, Lib.hid (HST.out.trans HFL.out), R2, B2⟩
            case measure => simp [intOf]; omega
          · have c3 : p = 127 := by omega
            subst c3
            clear c1 c2
            have hh : (hx4 127).length = 4 := rfl
            have HH := Lib.hid (fun W => RHex_any 127 (by omega) W)
            have HST := Lib.hid hst
            clear hst
            unfold uni at HST
            generalize hx4 127 = h at *
            go_wp2_with fail
            refine (HLt.out _).mono ?_
            rintro r w2 ⟨rfl, hb⟩
            have B2 := Lib.hid (HB.out.trans (hb.mono HB.out.size)); have R2 := Lib.hid (HRr.out.below hb)
            clear hb
            go_wp2_with fail
            refine (HH.out _).mono ?_
            rintro r w3 ⟨rfl, rfl⟩
            go_wp2
            go_roundw
            case rel => exact ⟨k + 1, L ++ ([92, 117] ++ h), by omega, by go_num, cat2 L [92, 117] h, Lib.hid (HST.out.trans HFL.out), R2, B2⟩
            case measure => simp [intOf]; omega
        · rw [if_neg c1] at hst
          have k1 : ¬ (p : Int) < 32 := by omega
          have k2 : ((p : Int) == 127) = false := by simp; omega
          clear c1
          by_cases c2 : p ≤ 127 ∨ asc = false
          · rw [if_pos c2] at hst
            cases asc
            · clear c2
              have HST := Lib.hid hst
              clear hst
              go_wp2_with fail
              refine (HLt.out _).mono ?_
              rintro r w2 ⟨rfl, hb⟩
              have B2 := Lib.hid (HB.out.trans (hb.mono HB.out.size)); have R2 := Lib.hid (HRr.out.below hb)
              clear hb
              go_wp2_with fail
              refine (HBy.out _).mono ?_
              rintro r w3 ⟨rfl, hb⟩
              have B3 := Lib.hid (B2.out.trans (hb.mono B2.out.size)); have R3 := Lib.hid (R2.out.below hb)
              clear hb
              go_wp2
              go_roundw
              case rel => exact ⟨k + 1, L ++ m, by omega, by go_num, by rw [tx_app'], Lib.hid (HST.out.trans HFL.out), R3, B3⟩
              case measure => simp [intOf]; omega
            · have c3 : p ≤ 127 := by rcases c2 with h | h; exact h; cases h
              have k3 : ¬ 127 < (p : Int) := by omega
              clear c2
              have HST := Lib.hid hst
              clear hst
              go_wp2_with fail
              refine (HLt.out _).mono ?_
              rintro r w2 ⟨rfl, hb⟩
              have B2 := Lib.hid (HB.out.trans (hb.mono HB.out.size)); have R2 := Lib.hid (HRr.out.below hb)
              clear hb
              go_wp2_with fail
              refine (HBy.out _).mono ?_
              rintro r w3 ⟨rfl, hb⟩
              have B3 := Lib.hid (B2.out.trans (hb.mono B2.out.size)); have R3 := Lib.hid (R2.out.below hb)
              clear hb
              go_wp2
              go_roundw
              case rel => exact ⟨k + 1, L ++ m, by omega, by go_num, by rw [tx_app'], Lib.hid (HST.out.trans HFL.out), R3, B3⟩
              case measure => simp [intOf]; omega
          · rw [if_neg c2] at hst
            have ha : asc = true := by rcases asc with _ | _; exact absurd (.inr rfl) c2; rfl
            have c3 : ¬ p ≤ 127 := fun h => c2 (.inl h)
            have k3 : 127 < (p : Int) := by omega
            subst ha
            clear c2
            by_cases c4 : p ≤ 65535
            · rw [if_pos c4] at hst
              have k4 : (p : Int) < 65536 := by omega
              have hh : (hx4 p).length = 4 := rfl
              have HH := Lib.hid (fun W => RHex_any p (by omega) W)
              have HST := Lib.hid hst
              clear hst
              unfold uni at HST
              generalize hx4 p = h at *
              go_wp2_with fail
              refine (HLt.out _).mono ?_
              rintro r w2 ⟨rfl, hb⟩
              have B2 := Lib.hid (HB.out.trans (hb.mono HB.out.size)); have R2 := Lib.hid (HRr.out.below hb)
              clear hb
              go_wp2_with fail
              refine (HH.out _).mono ?_
              rintro r w3 ⟨rfl, rfl⟩
              go_wp2
              go_roundw
              case rel => exact ⟨k + 1, L ++ ([92, 117] ++ h), by omega, by go_num, cat2 L [92, 117] h, Lib.hid (HST.out.trans HFL.out), R2, B2⟩
              case measure => simp [intOf]; omega
            · rw [if_neg c4] at hst
              have k4 : ¬ (p : Int) < 65536 := by omega
              obtain ⟨q, hq⟩ : ∃ q, q = p - 65536 := ⟨_, rfl⟩
              rw [← hq] at hst
              have hq3 : q ≤ 1048575 := by omega
              have hh1 := RHex_any (55296 + q / 1024) (by omega)
              have hh2 := RHex_any (56320 + q % 1024) (by omega)
              rw [show ((55296 + q / 1024 : Nat) : Int) = 55296 + ((p : Int) - 65536) / 1024 by omega] at hh1
              rw [show ((56320 + q % 1024 : Nat) : Int) = 56320 + ((p : Int) - 65536) % 1024 by omega] at hh2
              have HH1 := Lib.hid hh1; have HH2 := Lib.hid hh2
              have HST := Lib.hid hst
              clear hst hh1 hh2 hq
              unfold uni at HST
              have hl1 : (hx4 (55296 + q / 1024)).length = 4 := rfl
              have hl2 : (hx4 (56320 + q % 1024)).length = 4 := rfl
              generalize hx4 (55296 + q / 1024) = h1 at *
              generalize hx4 (56320 + q % 1024) = h2 at *
              go_wp2_with fail
              refine (HLt.out _).mono ?_
              rintro r w2 ⟨rfl, hb⟩
              have B2 := Lib.hid (HB.out.trans (hb.mono HB.out.size)); have R2 := Lib.hid (HRr.out.below hb)
              clear hb
              go_wp2_with fail
              refine (HH1.out _).mono ?_
              rintro r w3 ⟨rfl, rfl⟩
              go_wp2_with fail
              refine (HH2.out _).mono ?_
              rintro r w3 ⟨rfl, rfl⟩
              go_wp2
              go_roundw
              case rel => exact ⟨k + 1, L ++ ([92, 117] ++ h1 ++ ([92, 117] ++ h2)), by omega, by go_num, cat4 L [92, 117] h1 [92, 117] h2, Lib.hid (HST.out.trans HFL.out), R2, B2⟩
              case measure => simp [intOf]; omega
      · rw [if_pos ht0] at hst
        have HST := Lib.hid hst
        have g1 : ((t : Int) == 0) = false := by simp; omega
        clear hst
        go_wp2_with fail
        refine (HLt.out _).mono ?_
        rintro r w2 ⟨rfl, hb⟩
        have B2 := Lib.hid (HB.out.trans (hb.mono HB.out.size)); have R2 := Lib.hid (HRr.out.below hb)
        clear hb
        have hcv := fun (W : World) => conv_lit (P := Tryd.prog) W 26 9 5 #[.int .u8 t] [t] 1 Tryd.underlying26 Tryd.underlying5 Tryd.underlying9 rfl (by simp; omega) rfl
        have B3 : Hid (Below w.heap.size w (w2.alloc (.cells #[.int .u8 t] 5))) := Lib.hid (B2.out.alloc B2.out.size _)
        have R3 : Hid (Rd (w2.alloc (.cells #[.int .u8 t] 5)) .i64 (some ⟨bb, off, none⟩) ps) := Lib.hid (R2.out.below ((Below.refl _ _).alloc (Nat.le_refl _) _))
        go_wp2
        go_roundw
        case rel => exact ⟨k + 1, L ++ [92, t], by omega, by go_num, cat2 L [92] [t], Lib.hid (HST.out.trans HFL.out), R3, B3⟩
        case measure => simp [intOf]; omega
    · have : k = ps.length := by omega
      subst this
      have hE : Hid (L ++ [34] = wrt asc ps) := Lib.hid (by rw [HL.out, List.take_length]; rfl)
      have hLl : L.length ≤ 20000000000000 := by
        have := flat_len asc (ps.take ps.length)
        rw [HL.out, List.length_append, List.length_singleton]
        rw [List.length_take] at this; omega
      have hts := fun l => tx_size l
      go_wp2
      go_ret
      refine ⟨?_, HB.out⟩
      rw [← hE.out, ← tx_app']; rfl
end Go.Proofs.YtmiiekkmpkfnhaaDoor
