/- Walk of the law ValidDeeper. -/
import Derived.Test.YtefaieglhllioaaDoorValT
import Derived.Test.YtefaieglhllioaaDoorValS
namespace Go.Proofs.YtefaieglhllioaaDoor
open Go.RowKit UM QM VM

theorem Ck.len {l : List Nat} {m k : Nat} {sp : List (Nat × Nat)} {e y : Nat} (c : Ck quoF l m k sp e y) : k ≤ l.length → k + sp.length ≤ e := by
  induction c with
  | done h => exact fun hk => hk
  | bad h t hr => exact fun _ => Nat.le_trans bk_ge (Txt.ge quo_ok t)
  | @last k e h t ha =>
    intro _
    have := Txt.adv quo_ok t
    have := bk_ge (l := l) (k := k)
    split <;> simp <;> omega
  | @next k e1 sp f y h t ha c ih =>
    intro _
    have h1 := Txt.adv quo_ok t
    have h2 := bk_ge (l := l) (k := k)
    have h3 := ih (Txt.le quo_ok t (Nat.le_of_lt h))
    simp only [List.length_cons]; omega
/-- a fresh box of a fault, beside what stood -/
theorem boxF {w : World} {x y : Int} {W : World} (hW : W = w.alloc (.cells #[.int .i64 x, .int .i64 y] 26)) : Below w.heap.size w W ∧ W.cell? ⟨w.heap.size, 0, none⟩ = some (.int .i64 x) ∧ W.cell? ⟨w.heap.size, 1, none⟩ = some (.int .i64 y) := by
  subst hW
  exact ⟨(Below.refl _ _).alloc (Nat.le_refl _) _, by simp, by simp⟩
set_option maxRecDepth 100000 in
set_option maxHeartbeats 4000000 in
theorem deeper_walk {a : Option Addr} {cap c : Nat} {depth : Int} {l : List Nat} (w : World) (ht : Sh w) (hl : l.length ≤ 1048576) (hlo : LM.Lo 256 l) (hcp : l.length ≤ cap) (hr : Rd w .u8 a l) (hc : c < 256) : Calls Tryd.prog 6 #[.slice a l.length cap, .int .i64 depth, .int .u8 c] w fun r w' => r = .returned (.bool true) ∧ Below w.heap.size w w' := by
  have HT := Lib.hid ht; have HR := Lib.hid hr; have HLO := Lib.hid hlo
  obtain ⟨d, hd⟩ : ∃ d : Nat, max 0 (min depth 200) = (d : Int) := ⟨(max 0 (min depth 200)).toNat, by omega⟩
  have hd200 : d ≤ 200 := by omega
  have HD := Lib.hid hd
  have HC1 := Lib.hid (fun W (h : Rd W .u8 a l) (t : Sh W) => Check_any (d : Int) a cap l W (by omega) hlo h t hcp)
  have HC2 := Lib.hid (fun W (h : Rd W .u8 a l) (t : Sh W) => Check_any ((d : Int) + (c : Int)) a cap l W (by omega) hlo h t hcp)
  have hm1 : mostF (d : Int) = d := by unfold mostF; omega
  have hm2 : d ≤ mostF ((d : Int) + (c : Int)) := by unfold mostF; omega
  rw [hm1] at HC1
  generalize mostF ((d : Int) + (c : Int)) = m2 at *
  have HM2 := Lib.hid hm2
  clear ht hr hlo hd hm1 hm2
  go_enter Tryd.func6, Tryd.ntmps6
  go_wp2_with fail
  refine (vshown_any _ HT.out).mono ?_
  rintro r w1 ⟨rfl, hb⟩
  have G1 : Hid (Goes w w1) := Lib.hid ⟨hb, HT.out.below hb⟩
  have R1 := Lib.hid (HR.out.below hb)
  clear hb HT HR
  go_upto_region 2 with (fail)
  go_cut [8] (fun s8 wx => s8 = .int .i64 (d : Int) ∧ w1 = wx)
  case first =>
    go_wp2_with fail
    all_goals
      go_meet
      exact ⟨congrArg (Value.int .i64) (by have := HD.out; omega), rfl⟩
  case rest =>
    obtain ⟨rfl, rfl⟩ := hcut
    clear HD
    go_wp2_with fail
    refine (HC1.out _ R1.out G1.out.2).mono ?_
    rintro r w2 ⟨sp, j, y, ao, ca, hck, rfl, ho, hb⟩
    have G2 := Lib.hid (G1.out.next hb)
    have R2 := Lib.hid (R1.out.below hb)
    have K1 := Lib.hid hck
    have O1 := Lib.hid (OwnV.rdV ho)
    have hsl := (Ck.ge quo_ok hck (Nat.zero_le _)).2
    have hspl := Ck.len hck (Nat.zero_le _)
    clear hb ho hck HC1 G1 R1
    go_upto_region 4 with (fail)
    obtain ⟨hbA, z0, z1⟩ := boxF (w := w2) (x := (j : Int)) (y := (y : Int)) rfl
    have G3 := Lib.hid (G2.out.next hbA)
    have R3 := Lib.hid (R2.out.below hbA)
    have O3 := Lib.hid (O1.out.below hbA)
    have Z3 := Lib.hid (show _ ∧ _ from ⟨z0, z1⟩)
    clear hbA z0 z1 G2 R2 O1
    generalize hbx : w2.heap.size = bx at *
    clear hbx
    generalize w2.alloc (.cells #[.int .i64 (j : Int), .int .i64 (y : Int)] 26) = w3 at *
    go_wp2_with fail
    refine (HC2.out _ R3.out G3.out.2).mono ?_
    rintro r w4 ⟨sp', j', y', ao', ca', hck', rfl, ho', hb⟩
    have G4 := Lib.hid (G3.out.next hb)
    have K2 := Lib.hid hck'
    have O4 := Lib.hid (O3.out.below hb)
    have P4 := Lib.hid (OwnV.rdV ho')
    have Z4 := Lib.hid (show _ ∧ _ from ⟨cellP hb Z3.out.1, cellP hb Z3.out.2⟩)
    clear hb ho' hck' HC2 G3 R3 O3 Z3
    go_upto_region 5 with (fail)
    obtain ⟨hbA, z0, z1⟩ := boxF (w := w4) (x := (j' : Int)) (y := (y' : Int)) rfl
    have G5 := Lib.hid (G4.out.next hbA)
    have O5 := Lib.hid (O4.out.below hbA)
    have P5 := Lib.hid (P4.out.below hbA)
    have Z5 := Lib.hid (show _ ∧ _ ∧ _ ∧ _ from ⟨cellP hbA Z4.out.1, cellP hbA Z4.out.2, z0, z1⟩)
    clear hbA z0 z1 G4 O4 P4 Z4
    generalize hbx : w4.heap.size = bx2 at *
    clear hbx
    generalize w4.alloc (.cells #[.int .i64 (j' : Int), .int .i64 (y' : Int)] 26) = w5 at *
    go_wp2_with fail
    refine (Same_any ao ao' ca ca' sp sp' w5 O5.out P5.out (by omega)).mono ?_
    rintro r w6 ⟨b, n, rfl, hs, rfl⟩
    have G6 := Lib.hid (show Goes w (w5.drewN n) from ⟨bdN G5.out.1 n, G5.out.2⟩)
    have Z6 := Lib.hid (show (w5.drewN n).cell? ⟨bx, 0, none⟩ = _ ∧ (w5.drewN n).cell? ⟨bx, 1, none⟩ = _ ∧ (w5.drewN n).cell? ⟨bx2, 0, none⟩ = _ ∧ (w5.drewN n).cell? ⟨bx2, 1, none⟩ = _ from Z5.out)
    clear G5 O5 P5 Z5
    generalize w5.drewN n = w7 at *
    obtain ⟨z0, z1, z2, z3⟩ := Z6.out
    by_cases hy : y = 3
    · obtain ⟨h1, h2⟩ := Ck.deeper quo_ok HM2.out K1.out (Nat.zero_le _) hy K2.out
      have hy2 : ((y : Int) != 3) = false := by simp; omega
      have h1' : (j : Int) ≤ (j' : Int) := by omega
      have h2' : (sp.length : Int) ≤ (sp'.length : Int) := by omega
      clear hs hy
      go_wp2
      go_ret
      exact ⟨rfl, G6.out.1⟩
    · obtain ⟨rfl, rfl, rfl⟩ := (Ck.deep quo_ok HM2.out K1.out (Nat.zero_le _) hy).det K2.out
      obtain rfl := hs rfl
      have hy2 : ((y : Int) != 3) = true := by simp; omega
      clear hs hy
      go_wp2
      go_ret
      exact ⟨rfl, G6.out.1⟩
theorem deeper_row {a : Option Addr} {len cap : Nat} {x c : Int} (w : World) (ht : Sh w) (hb : IsBytes w a len cap) (hl : len ≤ 1048576) (_ : (Lit.int .i64 x).wf = true) (hc : (Lit.int .u8 c).wf = true) : Calls Tryd.prog 6 #[.slice a len cap, .int .i64 x, .int .u8 c] w fun r w' => r = .returned (.bool true) ∧ Below w.heap.size w w' := by
  obtain ⟨l, rfl, h2, h3, h4, h5⟩ := hb
  have hx2 := bounds_u8 hc
  have e : c = ((c.toNat : Nat) : Int) := by omega
  rw [e]
  exact deeper_walk w ht hl h3 h4 h2 (by omega)
end Go.Proofs.YtefaieglhllioaaDoor
