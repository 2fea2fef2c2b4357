/- quote: putPiece walked. -/
import Derived.Test.YtgjpjgfejjgheaaDoorQuoF
namespace Go.Proofs.YtgjpjgfejjgheaaDoor
open Go.RowKit UM QM

set_option maxRecDepth 100000 in
set_option maxHeartbeats 2000000 in
theorem putPiece_any (asc : Bool) (p : Nat) (B : Nat) (ao : Option Addr) (cap : Nat) (l : List Nat) (w : World) (hp : Pt p) (hB : B ≤ w.heap.size) (hl : l.length ≤ 99999999999990) (hown : Own w B 5 .u8 ao cap l) :
    Calls Tryd.prog 25 #[.slice ao l.length cap, .int .i64 p, .string (tx (enc p)), .bool asc] w (ResApp B (l ++ pieceW asc p) w) := by
  have HO := Lib.hid hown
  have HL1 := Lib.hid (letterOf_any p hp.1 w)
  have hm := Lib.hid (enc_lo hp.1)
  have hel : 0 < (enc p).length ∧ (enc p).length ≤ 4 := by rw [enc_len]; exact ⟨by have := (en_pos p).1; omega, (en_pos p).2⟩
  have HEL := Lib.hid hel
  have hpl := hp.1
  clear hown hel
  unfold pieceW
  generalize enc p = m at *
  generalize letF p = t at *
  by_cases ht0 : t = 0
  · subst ht0
    rw [if_neg (by simp)]
    by_cases h1 : p < 32 ∨ p = 127
    · rw [if_pos h1]
      have HU := Lib.hid (putUnit_any p B ao cap l w (by omega) hB (by omega) HO.out)
      by_cases h2 : p < 32
      · have h2' : (p : Int) < 32 := by omega
        clear h1 h2
        go_enter Tryd.func25, Tryd.ntmps25
        go_wp2_with fail
        refine HL1.out.mono ?_
        rintro r w1 ⟨rfl, rfl⟩
        go_wp2_with fail
        refine HU.out.mono ?_
        rintro r w1 ⟨a, c, rfl, R1, R2, R3⟩
        have A1 := Lib.hid R1; have A2 := Lib.hid R2; have A3 := Lib.hid R3
        clear R1 R2 R3
        go_wp2
        go_ret
        exact ⟨a, c, by simp, A1.out, A2.out, A3.out⟩
      · have h3 : p = 127 := by omega
        subst h3
        clear h1 h2
        go_enter Tryd.func25, Tryd.ntmps25
        go_wp2_with fail
        refine HL1.out.mono ?_
        rintro r w1 ⟨rfl, rfl⟩
        go_wp2_with fail
        refine HU.out.mono ?_
        rintro r w1 ⟨a, c, rfl, R1, R2, R3⟩
        have A1 := Lib.hid R1; have A2 := Lib.hid R2; have A3 := Lib.hid R3
        clear R1 R2 R3
        go_wp2
        go_ret
        exact ⟨a, c, by simp, A1.out, A2.out, A3.out⟩
    · rw [if_neg h1]
      have g1 : ¬ (p : Int) < 32 := by omega
      have g2 : ((p : Int) == 127) = false := by simp; omega
      clear h1
      by_cases h2 : p ≤ 127 ∨ asc = false
      · rw [if_pos h2]
        by_cases h3 : p ≤ 127
        · have h3' : (p : Int) ≤ 127 := by omega
          clear h2
          go_enter Tryd.func25, Tryd.ntmps25
          go_wp2_with fail
          refine HL1.out.mono ?_
          rintro r w1 ⟨rfl, rfl⟩
          go_wp2_with (refine wp_text w rfl _ _ 26 9 rfl B 5 Tryd.underlying26 Tryd.underlying9 infoU8 ao cap _ l rfl rfl m hm.out HEL.out.1 rfl HO.out (by have := HEL.out.2; omega) hB ?_; intro ao' cap' w' h1 h2 h3; have H1 := Lib.hid h1; have H2 := Lib.hid h2; have H3 := Lib.hid h3; clear h1 h2 h3)
          go_ret
          exact ⟨ao', cap', by simp, H1.out, H2.out, H3.out⟩
        · have ha : asc = false := by rcases h2 with h | h; exact absurd h h3; exact h
          subst ha
          have h3' : ¬ (p : Int) ≤ 127 := by omega
          clear h2
          go_enter Tryd.func25, Tryd.ntmps25
          go_wp2_with fail
          refine HL1.out.mono ?_
          rintro r w1 ⟨rfl, rfl⟩
          go_wp2_with (refine wp_text w rfl _ _ 26 9 rfl B 5 Tryd.underlying26 Tryd.underlying9 infoU8 ao cap _ l rfl rfl m hm.out HEL.out.1 rfl HO.out (by have := HEL.out.2; omega) hB ?_; intro ao' cap' w' h1 h2 h3; have H1 := Lib.hid h1; have H2 := Lib.hid h2; have H3 := Lib.hid h3; clear h1 h2 h3)
          go_ret
          exact ⟨ao', cap', by simp, H1.out, H2.out, H3.out⟩
      · rw [if_neg h2]
        have ha : asc = true := by rcases asc with _ | _; exact absurd (.inr rfl) h2; rfl
        have h3 : ¬ p ≤ 127 := fun h => h2 (.inl h)
        have h3' : ¬ (p : Int) ≤ 127 := by omega
        subst ha
        clear h2
        by_cases h4 : p ≤ 65535
        · rw [if_pos h4]
          have HU := Lib.hid (putUnit_any p B ao cap l w (by omega) hB (by omega) HO.out)
          have h4' : (p : Int) ≤ 65535 := by omega
          go_enter Tryd.func25, Tryd.ntmps25
          go_wp2_with fail
          refine HL1.out.mono ?_
          rintro r w1 ⟨rfl, rfl⟩
          go_wp2_with fail
          refine HU.out.mono ?_
          rintro r w1 ⟨a, c, rfl, R1, R2, R3⟩
          have A1 := Lib.hid R1; have A2 := Lib.hid R2; have A3 := Lib.hid R3
          clear R1 R2 R3
          go_wp2
          go_ret
          exact ⟨a, c, by simp, A1.out, A2.out, A3.out⟩
        · rw [if_neg h4]
          have h4' : ¬ (p : Int) ≤ 65535 := by omega
          have hq1 : 55296 + (p - 65536) / 1024 < 65536 := by omega
          have hq2 : 56320 + (p - 65536) % 1024 < 65536 := by omega
          obtain ⟨q, hq⟩ : ∃ q, q = p - 65536 := ⟨_, rfl⟩
          rw [← hq] at hq1 hq2
          rw [← hq]
          have hq3 : q ≤ 1048575 := by omega
          have HQ := Lib.hid hq
          have hz1 : ((55296 + q / 1024 : Nat) : Int) = 55296 + ((p : Int) - 65535 - 1) / 1024 := by omega
          have hz2 := Lib.hid (show ((56320 + q % 1024 : Nat) : Int) = 56320 + ((p : Int) - 65535 - 1) % 1024 by omega)
          have hu := putUnit_any (55296 + q / 1024) B ao cap l w hq1 hB (by omega) HO.out
          rw [hz1] at hu
          have HU := Lib.hid hu
          clear hq hz1 hu
          go_enter Tryd.func25, Tryd.ntmps25
          go_wp2_with fail
          refine HL1.out.mono ?_
          rintro r w1 ⟨rfl, rfl⟩
          go_wp2_with fail
          refine HU.out.mono ?_
          rintro r w1 ⟨a, c, rfl, R1, R2, R3⟩
          have hu2 := putUnit_any (56320 + q % 1024) B a c (l ++ uni (55296 + q / 1024)) w1 hq2 (Nat.le_trans hB R2.size) (by simp [uni, hx4]; omega) R1
          rw [hz2.out, List.length_append] at hu2
          have HU2 := Lib.hid hu2
          clear hu2
          have A1 := Lib.hid R1; have A2 := Lib.hid R2; have A3 := Lib.hid R3
          clear R1 R2 R3
          go_wp2_with fail
          refine HU2.out.mono ?_
          rintro r w2 ⟨a2, c2, rfl, R1, R2, R3⟩
          have D1 := Lib.hid R1; have D2 := Lib.hid R2; have D3 := Lib.hid R3
          clear R1 R2 R3
          go_wp2
          go_ret
          exact ⟨a2, c2, by simp [List.append_assoc, Nat.add_assoc], by rw [← List.append_assoc]; exact D1.out, A2.out.trans D2.out, A3.out.trans D3.out⟩
  · rw [if_pos ht0]
    have g1 : ((t : Int) == 0) = false := by simp; omega
    have hlen : l.length + 2 ≤ maxLen := by unfold maxLen; omega
    go_enter Tryd.func25, Tryd.ntmps25
    go_wp2_with fail
    refine HL1.out.mono ?_
    rintro r w1 ⟨rfl, rfl⟩
    go_wp2_with (refine wp_apps (k := .u8) w rfl _ _ 26 rfl B 5 1 Tryd.underlying26 infoU8 ao cap _ l rfl rfl [92, t] (by simp) _ rfl _ _ rfl rfl HO.out (by simp; omega) hlen hB ?_; intro ao' cap' w' h1 h2 h3; have H1 := Lib.hid h1; have H2 := Lib.hid h2; have H3 := Lib.hid h3; clear h1 h2 h3)
    go_ret
    exact ⟨ao', cap', by simp, H1.out, H2.out, H3.out⟩
end Go.Proofs.YtgjpjgfejjgheaaDoor
