/- ParensDirectory walked (made by genparv.py). -/
import Derived.Test.YtelagemniheeoaaDoorParU
namespace Go.Proofs.YtelagemniheeoaaDoor
open Go.RowKit BM

/-- a vector that nobody made -/
def Nob (w : World) (p : Option Addr) : Prop := p = none ∨ ∃ b, p = some ⟨b, 0, none⟩ ∧ w.cell? ⟨b, 1, none⟩ = some (.int .i64 0) ∧ w.cell? ⟨b, 2, none⟩ = some (.slice none 0 0)
theorem Nob.len {w : World} {p : Option Addr} (h : Nob w p) : LenIs w p 0 := by
  rcases h with h | ⟨b, h1, h2, _⟩
  · exact .inl ⟨h, rfl⟩
  · exact .inr ⟨b, h1, h2⟩
theorem Nob.below {w w' : World} {p : Option Addr} (h : Nob w p) (hb : Below w.heap.size w w') : Nob w' p := by
  rcases h with h | ⟨b, h1, h2, h3⟩
  · exact .inl h
  · exact .inr ⟨b, h1, cellP hb h2, cellP hb h3⟩
theorem Directory0 (p : Option Addr) (w : World) (h : Nob w p) : Calls Tryd.prog 32 #[.pointer p] w fun e w' => e = .returned (.int .i64 0) ∧ w = w' := by
  rcases h with rfl | ⟨b, rfl, h1, h2⟩
  · go_enter Tryd.func32, Tryd.ntmps32
    go_wp2
    go_ret
    exact ⟨rfl, rfl⟩
  · go_enter Tryd.func32, Tryd.ntmps32
    go_wp2
    go_ret
    exact ⟨rfl, rfl⟩
set_option maxRecDepth 100000 in
set_option maxHeartbeats 8000000 in
theorem directory_walk (a : Option Addr) (cap : Nat) (bits : List (BitVec 64)) (n i : Int) (w : World) (hT : Tb w) (hr : RdV w a (wv8 bits)) (h0 : a = none → bits = [] ∧ cap = 0) (hcap : bits.length ≤ cap) (hl : bits.length ≤ 17592186044416) (hn : -9223372036854775808 ≤ n ∧ n ≤ 9223372036854775807) (hi : -9223372036854775808 ≤ i ∧ i ≤ 9223372036854775807) :
    Calls Tryd.prog 8 #[.slice a bits.length cap, .int .i64 n, .int .i64 i] w (ResB true w) := by
  have HSH := Lib.hid (shown_any w hT)
  have HNW := Lib.hid (fun W (hb : Below w.heap.size w W) => New_any a cap bits n W (hr.below hb) h0 hcap hl hn)
  clear hr h0 hcap hl hn hT
  go_enter Tryd.func8, Tryd.ntmps8
  go_wp2_with fail
  refine HSH.out.mono ?_
  rintro r w1 ⟨rfl, hb1⟩
  go_wp2_with fail
  refine (HNW.out w1 hb1).mono ?_
  rintro r w2 ⟨vb, v, rfl, hV, hvn, -, -, hb2, hmi⟩
  have hb3 := hb1.trans (hb2.mono hb1.size)
  have bA := (Below.refl w2.heap.size w2).alloc (Nat.le_refl _) (.cells #[.slice none 0 0, .int .i64 0, .slice none 0 0, .slice none 0 0] 43)
  have HV := Lib.hid (fun W (hb : Below w2.heap.size w2 W) => (⟨hV.1.below hb, hV.2⟩ : VX0 W vb v))
  have HB3 := Lib.hid hb3
  have HDL := Lib.hid (dir_le hV.2.1.2.2.1 hV.2.1.2.2.2 hmi)
  have hnb := hV.2.1.1.2.1
  have HNA : Hid (Nob (w2.alloc (.cells #[.slice none 0 0, .int .i64 0, .slice none 0 0, .slice none 0 0] 43)) (some ⟨w2.heap.size, 0, none⟩)) := Lib.hid (.inr ⟨_, rfl, by simp, by simp⟩)
  have BA := Lib.hid bA
  clear hV hvn hmi hb1 hb2 hb3 bA HSH HNW
  go_wp2_with fail
  generalize w2.alloc (.cells #[.slice none 0 0, .int .i64 0, .slice none 0 0, .slice none 0 0] 43) = w3 at *
  go_loopw [11, 12] (fun s11 _ wr => ∃ k : Nat, k ≤ 2 ∧ s11 = .int .i64 k ∧ Hid (Below w2.heap.size w2 wr) ∧ Hid (Nob wr (some ⟨w2.heap.size, 0, none⟩))) (fun s11 _ _ => 2 - (intOf s11).toNat)
  case atStart => exact ⟨0, by omega, rfl, BA, HNA⟩
  case round =>
    obtain ⟨k, hk, rfl, BR, NR⟩ := hrel
    have hk3 : k = 0 ∨ k = 1 ∨ k = 2 := by omega
    rcases hk3 with rfl | rfl | rfl
    · have hN0 : Nob wr (none) := .inl rfl
      have N1 := NR.out
      have B0 := BR.out
      go_wp2_with fail
      refine (Len_any (none) 0 wr hN0.len).mono ?_
      rintro r wq0 ⟨rfl, rfl⟩
      have hN1 := hN0
      go_wp2_with fail
      refine (Opens0 (none) i wr hN1.len).mono ?_
      rintro r wq1 ⟨rfl, rfl⟩
      have hN2 := hN1
      go_wp2_with fail
      refine (Rank0 (none) i wr hN2.len).mono ?_
      rintro r wq2 ⟨rfl, rfl⟩
      have hN3 := hN2
      go_wp2_with fail
      refine (Select0 (none) i wr hN3.len).mono ?_
      rintro r wn3 ⟨rfl, hbq⟩
      have hN4 := hN3.below hbq
      replace N1 := N1.below hbq
      replace B0 := B0.trans (hbq.mono B0.size)
      clear hbq
      go_wp2_with fail
      refine (Excess0 (none) i wn3 hN4.len).mono ?_
      rintro r wq4 ⟨rfl, rfl⟩
      have hN5 := hN4
      go_wp2_with fail
      refine (Close0 (none) i wn3 hN5.len).mono ?_
      rintro r wq5 ⟨rfl, rfl⟩
      have hN6 := hN5
      go_wp2_with fail
      refine (Open0 (none) i wn3 hN6.len).mono ?_
      rintro r wq6 ⟨rfl, rfl⟩
      have hN7 := hN6
      go_wp2_with fail
      refine (Enclose0 (none) i wn3 hN7.len).mono ?_
      rintro r wq7 ⟨rfl, rfl⟩
      have hN8 := hN7
      go_wp2_with fail
      refine (Size0 (none) i wn3 hN8.len).mono ?_
      rintro r wq8 ⟨rfl, rfl⟩
      have hN9 := hN8
      go_wp2_with fail
      refine (Child0 (none) i i wn3 hN9.len).mono ?_
      rintro r wn9 ⟨rfl, hbq⟩
      have hN10 := hN9.below hbq
      replace N1 := N1.below hbq
      replace B0 := B0.trans (hbq.mono B0.size)
      clear hbq
      go_wp2_with fail
      refine (Directory0 (none) wn9 hN10).mono ?_
      rintro r wq10 ⟨rfl, rfl⟩
      have hN11 := hN10
      go_wp2
      go_roundw
      case rel => exact ⟨1, by omega, by first | rfl | go_num, Lib.hid B0, Lib.hid N1⟩
      case measure => simp [intOf]
    · have hN0 : Nob wr (some ⟨w2.heap.size, 0, none⟩) := NR.out
      have N1 := NR.out
      have B0 := BR.out
      go_wp2_with fail
      refine (Len_any (some ⟨w2.heap.size, 0, none⟩) 0 wr hN0.len).mono ?_
      rintro r wq0 ⟨rfl, rfl⟩
      have hN1 := hN0
      go_wp2_with fail
      refine (Opens0 (some ⟨w2.heap.size, 0, none⟩) i wr hN1.len).mono ?_
      rintro r wq1 ⟨rfl, rfl⟩
      have hN2 := hN1
      go_wp2_with fail
      refine (Rank0 (some ⟨w2.heap.size, 0, none⟩) i wr hN2.len).mono ?_
      rintro r wq2 ⟨rfl, rfl⟩
      have hN3 := hN2
      go_wp2_with fail
      refine (Select0 (some ⟨w2.heap.size, 0, none⟩) i wr hN3.len).mono ?_
      rintro r wn3 ⟨rfl, hbq⟩
      have hN4 := hN3.below hbq
      replace N1 := N1.below hbq
      replace B0 := B0.trans (hbq.mono B0.size)
      clear hbq
      go_wp2_with fail
      refine (Excess0 (some ⟨w2.heap.size, 0, none⟩) i wn3 hN4.len).mono ?_
      rintro r wq4 ⟨rfl, rfl⟩
      have hN5 := hN4
      go_wp2_with fail
      refine (Close0 (some ⟨w2.heap.size, 0, none⟩) i wn3 hN5.len).mono ?_
      rintro r wq5 ⟨rfl, rfl⟩
      have hN6 := hN5
      go_wp2_with fail
      refine (Open0 (some ⟨w2.heap.size, 0, none⟩) i wn3 hN6.len).mono ?_
      rintro r wq6 ⟨rfl, rfl⟩
      have hN7 := hN6
      go_wp2_with fail
      refine (Enclose0 (some ⟨w2.heap.size, 0, none⟩) i wn3 hN7.len).mono ?_
      rintro r wq7 ⟨rfl, rfl⟩
      have hN8 := hN7
      go_wp2_with fail
      refine (Size0 (some ⟨w2.heap.size, 0, none⟩) i wn3 hN8.len).mono ?_
      rintro r wq8 ⟨rfl, rfl⟩
      have hN9 := hN8
      go_wp2_with fail
      refine (Child0 (some ⟨w2.heap.size, 0, none⟩) i i wn3 hN9.len).mono ?_
      rintro r wn9 ⟨rfl, hbq⟩
      have hN10 := hN9.below hbq
      replace N1 := N1.below hbq
      replace B0 := B0.trans (hbq.mono B0.size)
      clear hbq
      go_wp2_with fail
      refine (Directory0 (some ⟨w2.heap.size, 0, none⟩) wn9 hN10).mono ?_
      rintro r wq10 ⟨rfl, rfl⟩
      have hN11 := hN10
      go_wp2
      go_roundw
      case rel => exact ⟨2, by omega, by first | rfl | go_num, Lib.hid B0, Lib.hid N1⟩
      case measure => simp [intOf]
    · have HD := Lib.hid (Directory_any vb v wr (HV.out wr BR.out))
      have HD2 := Lib.hid (fun W (hb : Below wr.heap.size wr W) => Directory_any vb v W (HV.out W (BR.out.trans (hb.mono BR.out.size))))
      have HLn := Lib.hid (fun W (hb : Below wr.heap.size wr W) => Len_any _ v.n W (HV.out W (BR.out.trans (hb.mono BR.out.size))).1.len)
      obtain ⟨D, hD⟩ : ∃ D, 1 + (v.n / 64 + 1) + 2 * dirS v.n v.lv.length = D := ⟨_, rfl⟩
      rw [hD] at HD HD2 HDL
      have hDL := HDL.out
      have hdq : (D : Int) ≤ 5 + 5 * (((v.n : Int) + 63) / 64) := by omega
      generalize v.n = vn at *
      clear hD hDL
      go_wp2_with fail
      refine HD.out.mono ?_
      rintro r w5 ⟨rfl, hb5⟩
      go_wp2_with fail
      refine (HD2.out w5 hb5).mono ?_
      rintro r w6 ⟨rfl, hb6⟩
      have hb7 := hb5.trans (hb6.mono hb5.size)
      clear hb5 hb6
      go_wp2_with fail
      refine (HLn.out w6 hb7).mono ?_
      rintro r w7 ⟨rfl, rfl⟩
      go_wp2
      go_ret
      exact ⟨ret_bool (by first | (simp; done) | (simp; omega)), HB3.out.trans ((BR.out.trans (hb7.mono BR.out.size)).mono HB3.out.size)⟩
end Go.Proofs.YtelagemniheeoaaDoor
