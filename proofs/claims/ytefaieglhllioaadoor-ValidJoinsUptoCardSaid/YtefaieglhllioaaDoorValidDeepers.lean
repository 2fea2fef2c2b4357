/- Walk of the law ValidDeeper. -/
import Derived.Test.YtefaieglhllioaaDoorValT
import Derived.Test.YtefaieglhllioaaDoorValS
namespace Go.Proofs.YtefaieglhllioaaDoor
open Go.RowKit UM QM VM

theorem Ck.len {l : List Nat} {m k : Nat} {sp : List (Nat × Nat)} {e y : Nat} (c : Ck quoF l m k sp e y) : k ≤ l.length → k + sp.length ≤ e := by
  induction c with
  | done h => exact fun hk => hk
  | bad h t hr => exact fun _ => Nat.le_trans bk_ge (Txt.ge quo_ok t)
  | @last k e h t ha =>
    intro _
    have := Txt.adv quo_ok t
    have := bk_ge (l := l) (k := k)
    split <;> simp <;> omega
  | @next k e1 sp f y h t ha c ih =>
    intro _
    have h1 := Txt.adv quo_ok t
    have h2 := bk_ge (l := l) (k := k)
    have h3 := ih (Txt.le quo_ok t (Nat.le_of_lt h))
    simp only [List.length_cons]; omega
/-- a fresh box of a fault, beside what stood -/
theorem boxF {w : World} {x y : Int} {W : World} (hW : W = w.alloc (.cells #[.int .i64 x, .int .i64 y] 26)) : Below w.heap.size w W ∧ W.cell? ⟨w.heap.size, 0, none⟩ = some (.int .i64 x) ∧ W.cell? ⟨w.heap.size, 1, none⟩ = some (.int .i64 y) := by
  subst hW
  exact ⟨(Below.refl _ _).alloc (Nat.le_refl _) _, by simp, by simp⟩
set_option maxRecDepth 100000 in
set_option maxHeartbeats 4000000 in
theorem deeper_walk {a : Option Addr} {cap c : Nat} {depth : Int} {l : List Nat} (w : World) (ht : Sh w) (hl : l.length ≤ 1048576) (hlo : LM.Lo 256 l) (hcp : l.length ≤ cap) (hr : Rd w .u8 a l) (hc : c < 256) : Calls Tryd.prog 6 #[.slice a l.length cap, .int .i64 depth, .int .u8 c] w fun r w' => r = .returned (.bool true) ∧ Below w.heap.size w w' := by
  have HT := Lib.hid ht; have HR := Lib.hid hr; have HLO := Lib.hid hlo
  obtain ⟨d, hd⟩ : ∃ d : Nat, max 0 (min depth 200) = (d : Int) := ⟨(max 0 (min depth 200)).toNat, by omega⟩
  have hd200 : d ≤ 200 := by omega
  have HD := Lib.hid hd
  have HC1 := Lib.hid (fun W (h : Rd W .u8 a l) (t : Sh W) => Check_any (d : Int) a cap l W (by omega) hlo h t hcp)
  have HC2 := Lib.hid (fun W (h : Rd W .u8 a l) (t : Sh W) => Check_any ((d : Int) + (c : Int)) a cap l W (by omega) hlo h t hcp)
  have hm1 : mostF (d : Int) = d := by unfold mostF; omega
  have hm2 : d ≤ mostF ((d : Int) + (c : Int)) := by unfold mostF; omega
  rw [hm1] at HC1
  generalize mostF ((d : Int) + (c : Int)) = m2 at *
  have HM2 := Lib.hid hm2
  clear ht hr hlo hd hm1 hm2
  go_enter Tryd.func6, Tryd.ntmps6
  go_wp2_with fail
  refine (vshown_any _ HT.out).mono ?_
  rintro r w1 ⟨rfl, hb⟩
  have G1 : Hid (Goes w w1) := Lib.hid ⟨hb, HT.out.below hb⟩
  have R1 := Lib.hid (HR.out.below hb)
  clear hb HT HR
  go_upto_region 2 with (fail)
  go_cut [8] (fun s8 wx => s8 = .int .i64 (d : Int) ∧ w1 = wx)
  case first =>
    go_wp2_with fail
    all_goals
      go_meet
      exact ⟨congrArg (Value.int .i64) (by have := HD.out; omega), rfl⟩
  case rest =>
    obtain ⟨rfl, rfl⟩ := hcut
    clear HD
    go_wp2_with fail
    refine (HC1.out _ R1.out G1.out.2).mono ?_
    rintro r w2 ⟨sp, j, y, ao, ca, hck, rfl, ho, hb⟩
    have G2 := Lib.hid (G1.out.next hb)
    have R2 := Lib.hid (R1.out.below hb)
    have K1 := Lib.hid hck
    have O1 := Lib.hid (OwnV.rdV ho)
    have hsl := (Ck.ge quo_ok hck (Nat.zero_le _)).2
    have hspl := Ck.len hck (Nat.zero_le _)
    clear hb ho hck HC1 G1 R1
    go_upto_region 4 with (fail)
    obtain ⟨hbA, z0, z1⟩ := boxF (w := w2) (x := (j : Int)) (y := (y : Int)) rfl
    have G3 := Lib.hid (G2.out.next hbA)
    have R3 := Lib.hid (R2.out.below hbA)
    have O3 := Lib.hid (O1.out.below hbA)
    have Z3 := Lib.hid (show _ ∧ _ from ⟨z0, z1⟩)
    clear hbA z0 z1 G2 R2 O1
    generalize hbx : w2.heap.size = bx at *
    clear hbx
    generalize w2.alloc (.cells #[.int .i64 (j : Int), .int .i64 (y : Int)] 26) = w3 at *
    go_wp2_with fail
    refine (HC2.out _ R3.out G3.out.2).mono ?_
    rintro r w4 ⟨sp', j', y', ao', ca', hck', rfl, ho', hb⟩
    have G4 := Lib.hid (G3.out.next hb)
    have K2 := Lib.hid hck'
    have O4 := Lib.hid (O3.out.below hb)
    have P4 := Lib.hid (OwnV.rdV ho')
    have Z4 := Lib.hid (show _ ∧ _ from ⟨cellP hb Z3.out.1, cellP hb Z3.out.2⟩)
    clear hb ho' hck' HC2 G3 R3 O3 Z3
    go_upto_region 5 with (fail)
    obtain ⟨hbA, z0, z1⟩ := boxF (w := w4) (x := (j' : Int)) (y := (y' : Int)) rfl
    have G5 := Lib.hid (G4.out.next hbA)
    have O5 := Lib.hid (O4.out.below hbA)
    have P5 := Lib.hid (P4.out.below hbA)
    have Z5 := Lib.hid (show _ ∧ _ ∧ _ ∧ _ from ⟨cellP hbA Z4.out.1, cellP hbA Z4.out.2, z0, z1⟩)
    clear hbA z0 z1 G4 O4 P4 Z4
    generalize hbx : w4.heap.size = bx2 at *
    clear hbx
    generalize w4.alloc (.cells #[.int .i64 (j' : Int), .int .i64 (y' : Int)] 26) = w5 at *
    go_wp2_with fail
    refine (Same_any ao ao' ca ca' sp sp' w5 O5.out P5.out (by omega)).mono ?_
    rintro r w6 ⟨b, n, rfl, hs, rfl⟩
    have G6 := Lib.hid (show Goes w (w5.drewN n) from ⟨bdN G5.out.1 n, G5.out.2⟩)
    have Z6 := Lib.hid (show (w5.drewN n).cell? ⟨bx, 0, none⟩ = _ ∧ (w5.drewN n).cell? ⟨bx, 1, none⟩ = _ ∧ (w5.drewN n).cell? ⟨bx2, 0, none⟩ = _ ∧ (w5.drewN n).cell? ⟨bx2, 1, none⟩ = _ from Z5.out)
    clear G5 O5 P5 Z5
    generalize w5.drewN n = w7 at *
    obtain ⟨z0, z1, z2, z3⟩ := Z6.out
    by_cases hy : y = 3
    · obtain ⟨h1, h2⟩ := Ck.deeper quo_ok HM2.out K1.out (Nat.zero_le _) hy K2.out
      have hy2 : ((y : Int) != 3) = false := by simp; omega
      have h1' : (j : Int) ≤ (j' : Int) := by omega
      have h2' : (sp.length : Int) ≤ (sp'.length : Int) := by omega
      clear hs hy
      go_wp2
      go_ret
      exact ⟨rfl, G6.out.1⟩
    · obtain ⟨rfl, rfl, rfl⟩ := (Ck.deep quo_ok HM2.out K1.out (Nat.zero_le _) hy).det K2.out
      obtain rfl := hs rfl
      have hy2 : ((y : Int) != 3) = true := by simp; omega
      clear hs hy
      go_wp2
      go_ret
      exact ⟨rfl, G6.out.1⟩
theorem deeper_row {a : Option Addr} {len cap : Nat} {x c : Int} (w : World) (ht : Sh w) (hb : IsBytes w a len cap) (hl : len ≤ 1048576) (_ : (Lit.int .i64 x).wf = true) (hc : (Lit.int .u8 c).wf = true) : Calls Tryd.prog 6 #[.slice a len cap, .int .i64 x, .int .u8 c] w fun r w' => r = .returned (.bool true) ∧ Below w.heap.size w w' := by
  obtain ⟨l, rfl, h2, h3, h4, h5⟩ := hb
  have hx2 := bounds_u8 hc
  have e : c = ((c.toNat : Nat) : Int) := by omega
  rw [e]
  exact deeper_walk w ht hl h3 h4 h2 (by omega)
end Go.Proofs.YtefaieglhllioaaDoor

/- Walk of the law ValidSpans. -/
namespace Go.Proofs.YtefaieglhllioaaDoor
open Go.RowKit UM QM VM

theorem Rd.takeV {w : World} {k : IntKind} {a : Option Addr} {l : List Nat} (h : Rd w k a l) (n : Nat) : Rd w k a (l.take n) := by
  intro j hj
  rw [List.length_take] at hj
  obtain ⟨b, off, e, hc⟩ := h j (by omega)
  refine ⟨b, off, e, ?_⟩
  rw [List.getElem?_take, if_pos (by omega)]; exact hc
theorem lo_takeV {l : List Nat} (h : LM.Lo 256 l) (n : Nat) : LM.Lo 256 (l.take n) := fun x hx => h x (List.mem_of_mem_take hx)
theorem One_yes {a : Option Addr} {cap n : Nat} {l : List Nat} {w : World} (hc : Txt quoF l 200 0 6 l.length) (hn : n = l.length) (hl : l.length ≤ 140737488353000) (hlo : LM.Lo 256 l) (hrd : Rd w .u8 a l) (ht : Sh w) (hcp : l.length ≤ cap) :
    Calls Tryd.prog 9 #[.slice a n cap] w fun e w' => e = .returned (.bool true) ∧ Below w.heap.size w w' := by
  subst hn
  refine (One_of hc hl hlo hrd ht hcp).mono ?_
  rintro e w' ⟨rfl, hb⟩
  exact ⟨ret_bool (by simp), hb⟩
/-- an operation whose guard holds goes as one without -/
theorem wpList_unguard {P : Program} {ops : Array Oper} {rest : List Oper} {o : Oper} {a : Act} {w : World} {Q : Exit → Act → World → Prop} (hw : Region.wanted o (yielded ops a.tmps) = true) (h : wpList P ops Q ({ o with guard := none } :: rest) a w) : wpList P ops Q (o :: rest) a w := by
  have hw2 : Region.wanted { o with guard := none } (yielded ops a.tmps) = true := by simp [Region.wanted]
  unfold wpList at h ⊢
  rw [if_pos hw2] at h
  rw [if_pos hw]
  exact h
/-- a fresh box of a span, beside what stood -/
theorem boxS {w : World} {x y : Int} {W : World} (hW : W = w.alloc (.cells #[.int .i64 x, .int .i64 y] 31)) : Below w.heap.size w W ∧ W.cell? ⟨w.heap.size, 0, none⟩ = some (.int .i64 x) ∧ W.cell? ⟨w.heap.size, 1, none⟩ = some (.int .i64 y) := by
  subst hW
  exact ⟨(Below.refl _ _).alloc (Nat.le_refl _) _, by simp, by simp⟩
set_option maxRecDepth 100000 in
set_option maxHeartbeats 4000000 in
theorem spans_walk {a : Option Addr} {cap : Nat} {depth : Int} {l : List Nat} (w : World) (ht : Sh w) (hl : l.length ≤ 1048576) (hlo : LM.Lo 256 l) (hcp : l.length ≤ cap) (hr : Rd w .u8 a l) : Calls Tryd.prog 4 #[.slice a l.length cap, .int .i64 depth] w fun r w' => r = .returned (.bool true) ∧ Below w.heap.size w w' := by
  have HT := Lib.hid ht; have HR := Lib.hid hr; have HLO := Lib.hid hlo
  have HC1 := Lib.hid (fun W (h : Rd W .u8 a l) (t : Sh W) => Check_any depth a cap l W (by omega) hlo h t hcp)
  have hm2 := mostF_le depth
  generalize mostF depth = m2 at *
  clear ht hr hlo
  go_enter Tryd.func4, Tryd.ntmps4
  go_wp2_with fail
  refine (vshown_any _ HT.out).mono ?_
  rintro r w1 ⟨rfl, hb⟩
  have G1 : Hid (Goes w w1) := Lib.hid ⟨hb, HT.out.below hb⟩
  have R1 := Lib.hid (HR.out.below hb)
  clear hb HT HR
  go_wp2_with fail
  refine (HC1.out _ R1.out G1.out.2).mono ?_
  rintro r w2 ⟨sp, j, y, ao, ca, hck, rfl, ho, hb⟩
  have G2 := Lib.hid (G1.out.next hb)
  have R2 := Lib.hid (R1.out.below hb)
  have SP := Lib.hid (Ck.spans quo_law hck (Nat.zero_le _))
  have O2 := Lib.hid (OwnV.rdV ho)
  have hsl := (Ck.ge quo_ok hck (Nat.zero_le _)).2
  have hspl := Ck.len hck (Nat.zero_le _)
  clear hb ho hck HC1 G1 R1
  go_upto_region 3 with (fail)
  obtain ⟨hbA, z0, _⟩ := boxF (w := w2) (x := (j : Int)) (y := (y : Int)) rfl
  have G3 := Lib.hid (G2.out.next hbA)
  have R3 := Lib.hid (R2.out.below hbA)
  have O3 := Lib.hid (O2.out.below hbA)
  have Z3 := Lib.hid z0
  clear hbA z0 G2 R2 O2
  generalize hbx : w2.heap.size = bx at *
  clear hbx
  generalize w2.alloc (.cells #[.int .i64 (j : Int), .int .i64 (y : Int)] 26) = w3 at *
  go_wp2_with fail
  go_loopw [8, 9] (fun s8 s9 wr => ∃ (i : Nat) (L : Int), i ≤ sp.length ∧ s8 = .int .i64 L ∧ s9 = .int .i64 i ∧ Hid ((i = 0 ∧ L = -1) ∨ (∃ i' p, i = i' + 1 ∧ sp[i']? = some p ∧ L = (p.2 : Int))) ∧ Hid (Below w3.heap.size w3 wr)) (fun _ s9 _ => sp.length - (intOf s9).toNat)
  case atStart => exact ⟨0, -1, Nat.zero_le _, rfl, rfl, Lib.hid (.inl ⟨rfl, rfl⟩), Lib.hid (Below.refl _ _)⟩
  case round =>
    obtain ⟨i, L, hi, rfl, rfl, HL, HB⟩ := hrel
    have Gr := Lib.hid (G3.out.next HB.out)
    by_cases hlt : i < sp.length
    · have hp := List.getElem?_eq_getElem hlt
      generalize sp[i] = p at *
      obtain ⟨_, s2, s3, s4⟩ := SP.out.1 i p hp
      have hL : L < (p.1 : Int) := by
        rcases HL.out with ⟨_, h⟩ | ⟨i', q, rfl, hq, h⟩
        · omega
        · have := SP.out.2.1 i' q p hq hp
          omega
      have HL2 : Hid ((i + 1 = 0 ∧ (p.2 : Int) = -1) ∨ (∃ i' q, i + 1 = i' + 1 ∧ sp[i']? = some q ∧ (p.2 : Int) = (q.2 : Int))) := Lib.hid (.inr ⟨i, p, rfl, hp, rfl⟩)
      have hone := Txt.one quo_law (m' := 200) s4 hm2 (by omega)
      obtain ⟨b1, o1, rfl, x0, x1⟩ := RdV.span (O3.out.below HB.out) hp
      have Rr := Lib.hid (R3.out.below HB.out)
      obtain ⟨b0, off0, ea, _⟩ := Rr.out p.1 (by omega)
      subst ea
      have Zr := Lib.hid (cellP HB.out Z3.out)
      have ONE := Lib.hid (fun a3 c3 W (hr : Rd W .u8 a3 ((l.drop p.1).take (p.2 - p.1))) (t : Sh W) (hc : ((l.drop p.1).take (p.2 - p.1)).length ≤ c3) => One_yes (cap := c3) (n := p.2 - p.1) hone.1 hone.2.symm (by omega) (lo_takeV (lo_dropV HLO.out p.1) _) hr t hc)
      have HLEN : Hid (((l.drop p.1).take (p.2 - p.1)).length = p.2 - p.1) := Lib.hid hone.2
      obtain ⟨pa, pb⟩ := p
      simp only at s2 s3 hL x0 x1 ONE HLEN HL2
      have n1 : ¬ (pa : Int) ≤ L := by omega
      have n2 : ¬ (pb : Int) ≤ (pa : Int) := by omega
      have n3 : ¬ (j : Int) < (pb : Int) := by omega
      have n4 : ¬ cap = pa := by omega
      have n5 : (pb : Int) ≤ (cap : Int) := by omega
      have n6 : (pa : Int) ≤ (pb : Int) := by omega
      clear hone hp s4 HL hL
      go_upto_region 8 with (fail)
      obtain ⟨hbA, y0, y1⟩ := boxS (w := wr) (x := (pa : Int)) (y := (pb : Int)) rfl
      have G5 := Lib.hid (Gr.out.next hbA)
      have R5 := Lib.hid (Rr.out.below hbA)
      have z0 := cellP hbA Zr.out
      have HB5 := Lib.hid (HB.out.trans (hbA.mono HB.out.size))
      clear hbA Gr Rr Zr HB x0 x1
      generalize hbx : wr.heap.size = bs at *
      clear hbx
      generalize wr.alloc (.cells #[.int .i64 (pa : Int), .int .i64 (pb : Int)] 31) = w5 at *
      have O0 : Hid (Own (w5.alloc (.cells #[] 5)) w5.heap.size 5 .u8 (some ⟨w5.heap.size, 0, none⟩) 0 []) := Lib.hid (World.ownsRow_lit w5 #[] 0 (Nat.le_refl _) (by decide) rfl)
      have B0 : Below w5.heap.size w5 (w5.alloc (.cells #[] 5)) := (Below.refl _ _).alloc (Nat.le_refl _) _
      have R6 := Lib.hid (((R5.out.below B0).dropV pa).takeV (pb - pa))
      have B6 := Lib.hid B0
      have y0a := cellP B0 y0
      have y1a := cellP B0 y1
      clear B0
      go_wp2_with (first | ((with_reducible refine HO9.out.mono ?_); rintro r w9 ⟨rfl, hb⟩; have HB9 := Lib.hid (HB7.out.trans (hb.mono HB7.out.size)); have z9 := cellP (HBw.out.trans (hb.mono HBw.out.size)) y1; clear hb HO9) | (at_builtin; (refine wpList_unguard (by rfl) ?_); (refine wp_ownarg (w5.alloc (.cells #[] 5)) rfl _ _ 22 rfl w5.heap.size 5 Tryd.underlying22 infoU8 _ 0 _ [] rfl rfl O0.out (by simp) (some ⟨b0, off0 + pa, none⟩) _ _ ((l.drop pa).take (pb - pa)) HLEN.out.symm rfl R6.out (fun h => by cases h) (by rw [HLEN.out]; simp; omega) ?_); intro a3 c3 w7 h1 h2; (have HBw : Hid (Below w5.heap.size w5 w7) := Lib.hid (B6.out.trans (h2.mono (Nat.le_refl _)))); (have HB7 := Lib.hid (HB5.out.trans (HBw.out.mono HB5.out.size))); (have h1' : Own w7 w5.heap.size 5 .u8 a3 c3 ((l.drop pa).take (pb - pa)) := h1); (have HO9 := Lib.hid (ONE.out a3 c3 w7 h1'.rd (G5.out.next HBw.out).2 h1'.cap.1)); (have L3 : Hid (([] ++ (l.drop pa).take (pb - pa)).length = pb - pa) := Lib.hid HLEN.out); (rw [L3.out]); clear h1 h1' h2))
      go_roundw
      case rel => exact ⟨i + 1, _, by omega, rfl, by go_num, HL2, HB9⟩
      case measure => simp [intOf]; omega
    · go_wp2
      go_ret
      exact ⟨rfl, (G3.out.1.trans (HB.out.mono G3.out.1.size))⟩
theorem spans_row {a : Option Addr} {len cap : Nat} {x : Int} (w : World) (ht : Sh w) (hb : IsBytes w a len cap) (hl : len ≤ 1048576) (_ : (Lit.int .i64 x).wf = true) : Calls Tryd.prog 4 #[.slice a len cap, .int .i64 x] w fun r w' => r = .returned (.bool true) ∧ Below w.heap.size w w' := by
  obtain ⟨l, rfl, h2, h3, h4, _⟩ := hb
  exact spans_walk w ht hl h3 h4 h2
end Go.Proofs.YtefaieglhllioaaDoor

/- Walk of the law ValidPrefix. -/
namespace Go.Proofs.YtefaieglhllioaaDoor
open Go.RowKit UM QM VM

/-- Check of bytes of which it is known what it tells; n is how many there are -/
theorem Check_at {depth : Int} {a : Option Addr} {cap n : Nat} {l : List Nat} {w : World} {sp : List (Nat × Nat)} {j y : Nat} (hc : Ck quoF l (mostF depth) 0 sp j y) (hn : n = l.length) (hl : l.length ≤ 1000000000000) (hlo : LM.Lo 256 l) (hrd : Rd w .u8 a l) (ht : Sh w) (hcp : l.length ≤ cap) :
    Calls Tryd.prog 8 #[.slice a n cap, .int .i64 depth] w (ResCs sp j y w) := by
  subst hn
  exact Check_of hc hl hlo hrd ht hcp
theorem lo_appV {l m : List Nat} (h : LM.Lo 256 l) (h2 : LM.Lo 256 m) : LM.Lo 256 (l ++ m) := fun x hx => by
  rcases List.mem_append.1 hx with h' | h'
  · exact h x h'
  · exact h2 x h'
theorem pk_pre {l m : List Nat} {j i : Nat} (hj : j < l.length) (hi : i ≤ j) : pk (l.take (j + 1) ++ m) i = pk l i := by
  unfold QM.pk
  rw [List.length_append, List.length_take, if_pos (by omega), if_pos (by omega), List.getElem?_append_left (by rw [List.length_take]; omega), List.getElem?_take, if_pos (by omega)]
set_option maxRecDepth 100000 in
set_option maxHeartbeats 8000000 in
theorem prefix_some {ad : Addr} {cap cap2 : Nat} {a2 : Option Addr} {depth : Int} {l more : List Nat} (w : World) (ht : Sh w) (hl : l.length ≤ 1048576) (hlo : LM.Lo 256 l) (hcp : l.length ≤ cap) (hr : Rd w .u8 (some ad) l)
    (hl2 : more.length ≤ 1048576) (hlo2 : LM.Lo 256 more) (hr2 : Rd w .u8 a2 more) (hnil2 : a2 = none → more.length = 0 ∧ cap2 = 0) :
    Calls Tryd.prog 3 #[.slice (some ad) l.length cap, .int .i64 depth, .slice a2 more.length cap2] w fun r w' => r = .returned (.bool true) ∧ Below w.heap.size w w' := by
  have HT := Lib.hid ht; have HR := Lib.hid hr; have HLO := Lib.hid hlo; have HR2 := Lib.hid hr2; have HLO2 := Lib.hid hlo2; have HNIL := Lib.hid hnil2
  have HC1 := Lib.hid (fun W (h : Rd W .u8 (some ad) l) (t : Sh W) => Check_any depth (some ad) cap l W (by omega) hlo h t hcp)
  clear ht hr hlo hr2 hlo2 hnil2
  go_enter Tryd.func3, Tryd.ntmps3
  go_wp2_with fail
  refine (vshown_any _ HT.out).mono ?_
  rintro r w1 ⟨rfl, hb⟩
  have G1 : Hid (Goes w w1) := Lib.hid ⟨hb, HT.out.below hb⟩
  have R1 := Lib.hid (HR.out.below hb)
  have S1 := Lib.hid (HR2.out.below hb)
  clear hb HT HR HR2
  go_wp2_with fail
  refine (HC1.out _ R1.out G1.out.2).mono ?_
  rintro r w2 ⟨sp, j, y, ao, ca, hck, rfl, ho, hb⟩
  have G2 := Lib.hid (G1.out.next hb)
  have R2 := Lib.hid (R1.out.below hb)
  have S2 := Lib.hid (S1.out.below hb)
  have K := Lib.hid hck
  have hends := Ck.ends quo_ok hck (Nat.zero_le _)
  have hj := (Ck.ge quo_ok hck (Nat.zero_le _)).2
  obtain ⟨sp2, y2, hup, hy2⟩ := Ck.upto quo_law hck (Nat.zero_le _)
  have HM : Hid (j = (l.take j).length) := Lib.hid (by rw [List.length_take]; omega)
  have HC2 := Lib.hid (fun a3 c3 W (h : Rd W .u8 a3 (l.take j)) (t : Sh W) (hc : (l.take j).length ≤ c3) => Check_at (depth := depth) (a := a3) (cap := c3) (n := j) hup HM.out (by rw [List.length_take]; omega) (lo_takeV HLO.out j) h t hc)
  have HC3 : Hid ((y = 1 ∨ y = 3) → j < l.length → pk l j ≤ 127 → ∃ sp3, Ck quoF (l.take (j + 1) ++ more) (mostF depth) 0 sp3 j y) := Lib.hid (fun _ h1 h2 => Ck.wrong quo_law hck (Nat.zero_le _) h1 (by rw [List.length_append, List.length_take]; omega) (fun i hi => pk_pre h1 hi) h2)
  clear hb ho hck HC1 G1 R1 S1 hup
  go_upto_region 3 with (fail)
  obtain ⟨hbA, z0, z1⟩ := boxF (w := w2) (x := (j : Int)) (y := (y : Int)) rfl
  have G3 := Lib.hid (G2.out.next hbA)
  have R3 := Lib.hid (R2.out.below hbA)
  have S3 := Lib.hid (S2.out.below hbA)
  clear hbA G2 R2 S2
  generalize hbx : w2.heap.size = bx at *
  clear hbx
  generalize w2.alloc (.cells #[.int .i64 (j : Int), .int .i64 (y : Int)] 26) = w3 at *
  have j0 : ¬ (j : Int) < 0 := by omega
  have j1 : ¬ (l.length : Int) < (j : Int) := by omega
  have j2 : (j : Int) ≤ (cap : Int) := by omega
  have O0 : Hid (Own (w3.alloc (.cells #[] 5)) w3.heap.size 5 .u8 (some ⟨w3.heap.size, 0, none⟩) 0 []) := Lib.hid (World.ownsRow_lit w3 #[] 0 (Nat.le_refl _) (by decide) rfl)
  have B0 : Below w3.heap.size w3 (w3.alloc (.cells #[] 5)) := (Below.refl _ _).alloc (Nat.le_refl _) _
  have z0a := cellP B0 z0
  have z1a := cellP B0 z1
  have B3 := Lib.hid B0
  have R4 := Lib.hid ((R3.out.below B0).takeV j)
  clear B0
  have t0 : y = 0 ∨ y = 2 ∨ (¬ y = 0 ∧ ¬ y = 2) := by omega
  rcases t0 with t0 | t0 | ⟨t0, t2⟩
  all_goals
    first
      | (have q0 : ((y : Int) == 0) = true := by simp [t0])
      | (have q0 : ((y : Int) == 0) = false := by rw [beq_eq_false_iff_ne]; omega)
    first
      | (have q2 : ((y : Int) == 2) = true := by rw [beq_iff_eq]; omega)
      | (have q2 : ((y : Int) == 2) = false := by rw [beq_eq_false_iff_ne]; omega)
      | skip
    first
      | (have q3 : ((j : Int) != (l.length : Int)) = false := by rw [bne_eq_false_iff_eq]; omega)
      | (have q3 : ¬ (l.length : Int) ≤ (j : Int) := by omega)
    clear hends
    go_upto_region 5 with (fail)
    go_upto_region 6 with (first | ((with_reducible refine HO9.out.mono ?_); rintro r w9 ⟨ao9, c9, rfl, _, hb⟩; have G9 := Lib.hid (G7.out.next hb); have z0b := cellP (HBw.out.trans (hb.mono HBw.out.size)) z0; have z1b := cellP (HBw.out.trans (hb.mono HBw.out.size)) z1; have R9 := Lib.hid (R3.out.below (HBw.out.trans (hb.mono HBw.out.size))); have S9 := Lib.hid (S3.out.below (HBw.out.trans (hb.mono HBw.out.size))); clear hb HO9 G7 HBw) | (at_builtin; refine wp_ownarg (w3.alloc (.cells #[] 5)) rfl _ _ 22 rfl w3.heap.size 5 Tryd.underlying22 infoU8 _ 0 _ [] rfl rfl O0.out (by simp) (some ad) _ cap (l.take j) HM.out rfl R4.out (fun h => by cases h) (by rw [← HM.out]; simp; omega) ?_; intro a3 c3 w7 h1 h2; have HBw : Hid (Below w3.heap.size w3 w7) := Lib.hid (B3.out.trans (h2.mono (Nat.le_refl _))); have G7 := Lib.hid (G3.out.next HBw.out); have h1' : Own w7 w3.heap.size 5 .u8 a3 c3 (l.take j) := h1; have HO9 : Hid (Calls Tryd.prog 8 #[.slice a3 j c3, .int .i64 depth] w7 (ResCs sp2 j y2 w7)) := Lib.hid (HC2.out a3 c3 w7 h1'.rd G7.out.2 h1'.cap.1); have L3 : Hid (([] ++ l.take j).length = j) := Lib.hid HM.out.symm; rw [L3.out]; unfold ResCs at HO9; clear h1 h1' h2 z0a z1a))
    obtain ⟨hbA, x0, x1⟩ := boxF (w := w9) (x := (j : Int)) (y := (y2 : Int)) rfl
    have GA := Lib.hid (G9.out.next hbA)
    have RA := Lib.hid (R9.out.below hbA)
    have SA := Lib.hid (S9.out.below hbA)
    have w0b := cellP hbA z0b
    have w1b := cellP hbA z1b
    clear hbA G9 R9 S9 z0b z1b z0 z1 R4 B3 O0 R3 S3 G3
    generalize hby : w9.heap.size = by9 at *
    clear hby
    generalize w9.alloc (.cells #[.int .i64 (j : Int), .int .i64 (y2 : Int)] 26) = wA at *
    have v0 : y2 = 0 ∨ y2 = 2 := hy2
    have v1 : ((y2 : Int) != 0) = false ∨ (((y2 : Int) != 0) = true ∧ ((y2 : Int) != 2) = false) := by
      rcases v0 with h | h <;> subst h
      · exact .inl rfl
      · exact .inr ⟨rfl, rfl⟩
    clear hy2 v0
  · have GF := Lib.hid GA
    rcases v1 with v1 | ⟨v1, v2⟩
    all_goals
      clear t0 HC2 HC3
      go_wp2
      go_ret
      exact ⟨rfl, GA.out.1⟩
  · rcases v1 with v1 | ⟨v1, v2⟩
    all_goals
      clear t0 HC2 HC3
      go_wp2
      go_ret
      exact ⟨rfl, GA.out.1⟩
  · have hjl : j < l.length := by omega
    have hy13 : y = 1 ∨ y = 3 := by
      rcases Ck.ends quo_ok K.out (Nat.zero_le _) with h | h <;> omega
    obtain ⟨b9, o9, x, ea, HX, hx, hcx⟩ := RA.out.get HLO.out j hjl
    cases ea
    have hpx : pk l j = (x : Int) := by rw [HX.out]; exact if_pos hjl
    have H3 := Lib.hid (fun h => HC3.out hy13 hjl h)
    rw [hpx] at H3
    clear HC3 HC2 hpx HX hy13 t0 t2 K
    by_cases h7 : 127 < x
    · have h7' : (127 : Int) < (x : Int) := by omega
      clear H3 h7
      rcases v1 with v1 | ⟨v1, v2⟩
      all_goals
        go_wp2
        go_ret
        exact ⟨rfl, GA.out.1⟩
    · have h7' : ¬ (127 : Int) < (x : Int) := by omega
      obtain ⟨sp3, hck3⟩ := H3.out (by omega)
      have HM2 : Hid (j + 1 = (l.take (j + 1)).length) := Lib.hid (by rw [List.length_take]; omega)
      have HL2 : Hid ((([] ++ l.take (j + 1)) ++ more).length = j + 1 + more.length) := Lib.hid (by rw [List.length_append, List.nil_append, ← HM2.out])
      have HC4 := Lib.hid (fun a4 c4 W (h : Rd W .u8 a4 (l.take (j + 1) ++ more)) (t : Sh W) (hc : (l.take (j + 1) ++ more).length ≤ c4) => Check_at (depth := depth) (a := a4) (cap := c4) (n := j + 1 + more.length) hck3 HL2.out.symm (by rw [List.length_append, List.length_take]; omega) (lo_appV (lo_takeV HLO.out _) HLO2.out) h t hc)
      have j3 : (j : Int) + 1 ≤ (cap : Int) := by omega
      clear H3 h7 hck3
      rcases v1 with v1 | ⟨v1, v2⟩
      all_goals
        go_upto_region 12 with (fail)
        have O0 : Hid (Own (wA.alloc (.cells #[] 5)) wA.heap.size 5 .u8 (some ⟨wA.heap.size, 0, none⟩) 0 []) := Lib.hid (World.ownsRow_lit wA #[] 0 (Nat.le_refl _) (by decide) rfl)
        have B0 : Below wA.heap.size wA (wA.alloc (.cells #[] 5)) := (Below.refl _ _).alloc (Nat.le_refl _) _
        have z0a := cellP B0 w0b
        have z1a := cellP B0 w1b
        have BA := Lib.hid B0
        have RB := Lib.hid ((RA.out.below B0).takeV (j + 1))
        clear B0
        go_upto_region 13 with (first | ((with_reducible refine HO9.out.mono ?_); rintro r wC ⟨aoC, cC, rfl, _, hb⟩; have GC := Lib.hid (GD.out.next hb); have u0 := cellP (HBx.out.trans (hb.mono HBx.out.size)) w0b; have u1 := cellP (HBx.out.trans (hb.mono HBx.out.size)) w1b; clear hb HO9 GD HBx) | (at_builtin; refine wp_ownarg w8 rfl _ _ 22 rfl wA.heap.size 5 Tryd.underlying22 infoU8 a3 c3 _ ([] ++ l.take (j + 1)) L8.out.symm rfl O8.out HB8.out.size a2 _ cap2 more rfl rfl (SA.out.below HB8.out) HNIL.out (by rw [L8.out]; omega) ?_; intro a5 c5 wD h1 h2; have HBx : Hid (Below wA.heap.size wA wD) := Lib.hid (HB8.out.trans h2); have GD := Lib.hid (GA.out.next HBx.out); have h1' : Own wD wA.heap.size 5 .u8 a5 c5 (l.take (j + 1) ++ more) := h1; have HO9 : Hid (Calls Tryd.prog 8 #[.slice a5 (j + 1 + more.length) c5, .int .i64 depth] wD (ResCs sp3 j y wD)) := Lib.hid (HC4.out a5 c5 wD h1'.rd GD.out.2 h1'.cap.1); rw [HL2.out]; unfold ResCs at HO9; clear h1 h1' h2) | (at_builtin; refine wp_ownarg (wA.alloc (.cells #[] 5)) rfl _ _ 22 rfl wA.heap.size 5 Tryd.underlying22 infoU8 _ 0 _ [] rfl rfl O0.out (by simp) _ _ cap (l.take (j + 1)) HM2.out rfl RB.out (fun h => by cases h) (by rw [← HM2.out]; simp; omega) ?_; intro a3 c3 w8 h1 h2; have HB8 : Hid (Below wA.heap.size wA w8) := Lib.hid (BA.out.trans (h2.mono (Nat.le_refl _))); have O8 : Hid (Own w8 wA.heap.size 5 .u8 a3 c3 ([] ++ l.take (j + 1))) := Lib.hid h1; have L8 : Hid (([] ++ l.take (j + 1)).length = j + 1) := Lib.hid HM2.out.symm; rw [L8.out]; clear h1 h2 z0a z1a))
        obtain ⟨hbA, x0, x1⟩ := boxF (w := wC) (x := (j : Int)) (y := (y : Int)) rfl
        have GE := Lib.hid (GC.out.next hbA)
        have u0b := cellP hbA u0
        have u1b := cellP hbA u1
        clear hbA GC u0 u1 w0b w1b
        generalize hby : wC.heap.size = byC at *
        clear hby
        generalize wC.alloc (.cells #[.int .i64 (j : Int), .int .i64 (y : Int)] 26) = wE at *
        go_wp2
        go_ret
        exact ⟨rfl, GE.out.1⟩
theorem ck_nil (m : Nat) : Ck quoF [] m 0 [] 0 0 := Ck.done (l := []) rfl
theorem Check_nil {depth : Int} {a : Option Addr} {cap : Nat} {w : World} (ht : Sh w) : Calls Tryd.prog 8 #[.slice a 0 cap, .int .i64 depth] w fun e w' => ∃ ao c, e = .returned (.tuple #[.slice ao 0 c, .agg #[.int .i64 0, .int .i64 0]]) ∧ Below w.heap.size w w' := by
  refine (Check_at (l := []) (ck_nil _) rfl (by simp) (fun x h => by cases h) (Rd.nil _ _ _) ht (Nat.zero_le _)).mono ?_
  rintro e w' ⟨ao, c, he, _, hb⟩
  exact ⟨ao, c, he, hb⟩
set_option maxRecDepth 100000 in
set_option maxHeartbeats 4000000 in
theorem prefix_none {len2 cap2 : Nat} {a2 : Option Addr} {depth : Int} (w : World) (ht : Sh w) :
    Calls Tryd.prog 3 #[.slice none 0 0, .int .i64 depth, .slice a2 len2 cap2] w fun r w' => r = .returned (.bool true) ∧ Below w.heap.size w w' := by
  have HT := Lib.hid ht
  have HC := Lib.hid (fun W a (t : Sh W) => Check_nil (depth := depth) (a := a) (cap := 0) (w := W) t)
  clear ht
  go_enter Tryd.func3, Tryd.ntmps3
  go_wp2_with fail
  refine (vshown_any _ HT.out).mono ?_
  rintro r w1 ⟨rfl, hb⟩
  have G1 : Hid (Goes w w1) := Lib.hid ⟨hb, HT.out.below hb⟩
  clear hb HT
  go_wp2_with fail
  refine (HC.out _ _ G1.out.2).mono ?_
  rintro r w2 ⟨ao, ca, rfl, hb⟩
  have G2 := Lib.hid (G1.out.next hb)
  clear hb G1
  go_upto_region 3 with (fail)
  obtain ⟨hbA, z0, z1⟩ := boxF (w := w2) (x := 0) (y := 0) rfl
  have G3 := Lib.hid (G2.out.next hbA)
  clear hbA G2
  generalize hbx : w2.heap.size = bx at *
  clear hbx
  generalize w2.alloc (.cells #[.int .i64 0, .int .i64 0] 26) = w3 at *
  have B0 : Below w3.heap.size w3 (w3.alloc (.cells #[] 5)) := (Below.refl _ _).alloc (Nat.le_refl _) _
  have z0a := cellP B0 z0
  have z1a := cellP B0 z1
  have G4 := Lib.hid (G3.out.next B0)
  have HC2 := Lib.hid (HC.out _ (some ⟨w3.heap.size, 0, none⟩) G4.out.2)
  clear B0 G3 HC
  go_upto_region 6 with ((with_reducible refine HC2.out.mono ?_); rintro r w5 ⟨ao5, c5, rfl, hb⟩; have G5 := Lib.hid (G4.out.next hb); have u0 := cellP hb z0a; have u1 := cellP hb z1a; clear hb HC2 G4 z0a z1a)
  obtain ⟨hbA, x0, x1⟩ := boxF (w := w5) (x := 0) (y := 0) rfl
  have G6 := Lib.hid (G5.out.next hbA)
  have v0 := cellP hbA u0
  have v1 := cellP hbA u1
  clear hbA G5 u0 u1
  generalize hbx : w5.heap.size = by5 at *
  clear hbx
  generalize w5.alloc (.cells #[.int .i64 0, .int .i64 0] 26) = w6 at *
  go_wp2
  go_ret
  exact ⟨rfl, G6.out.1⟩
theorem prefix_row {a a2 : Option Addr} {len len2 cap cap2 : Nat} {x : Int} (w : World) (ht : Sh w) (hb : IsBytes w a len cap) (hl : len ≤ 1048576) (_ : (Lit.int .i64 x).wf = true) (hb2 : IsBytes w a2 len2 cap2) (hl2 : len2 ≤ 1048576) : Calls Tryd.prog 3 #[.slice a len cap, .int .i64 x, .slice a2 len2 cap2] w fun r w' => r = .returned (.bool true) ∧ Below w.heap.size w w' := by
  obtain ⟨l, rfl, h2, h3, h4, h5⟩ := hb
  obtain ⟨l2, rfl, g2, g3, g4, g5⟩ := hb2
  cases a with
  | none =>
    obtain ⟨e1, rfl⟩ := h5 rfl
    rw [e1]
    exact prefix_none w ht
  | some b =>
    exact prefix_some w ht hl h3 h4 h2 hl2 g3 g2 g5
end Go.Proofs.YtefaieglhllioaaDoor
