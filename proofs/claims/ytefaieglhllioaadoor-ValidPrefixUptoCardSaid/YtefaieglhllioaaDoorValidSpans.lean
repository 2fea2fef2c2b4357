/- Walk of the law ValidSpans. -/
import Derived.Test.YtefaieglhllioaaDoorValidDeeper
namespace Go.Proofs.YtefaieglhllioaaDoor
open Go.RowKit UM QM VM

theorem Rd.takeV {w : World} {k : IntKind} {a : Option Addr} {l : List Nat} (h : Rd w k a l) (n : Nat) : Rd w k a (l.take n) := by
  intro j hj
  rw [List.length_take] at hj
  obtain ⟨b, off, e, hc⟩ := h j (by omega)
  refine ⟨b, off, e, ?_⟩
  rw [List.getElem?_take, if_pos (by omega)]; exact hc
theorem lo_takeV {l : List Nat} (h : LM.Lo 256 l) (n : Nat) : LM.Lo 256 (l.take n) := fun x hx => h x (List.mem_of_mem_take hx)
theorem One_yes {a : Option Addr} {cap n : Nat} {l : List Nat} {w : World} (hc : Txt quoF l 200 0 6 l.length) (hn : n = l.length) (hl : l.length ≤ 140737488353000) (hlo : LM.Lo 256 l) (hrd : Rd w .u8 a l) (ht : Sh w) (hcp : l.length ≤ cap) :
    Calls Tryd.prog 9 #[.slice a n cap] w fun e w' => e = .returned (.bool true) ∧ Below w.heap.size w w' := by
  subst hn
  refine (One_of hc hl hlo hrd ht hcp).mono ?_
  rintro e w' ⟨rfl, hb⟩
  exact ⟨ret_bool (by simp), hb⟩
/-- an operation whose guard holds goes as one without -/
theorem wpList_unguard {P : Program} {ops : Array Oper} {rest : List Oper} {o : Oper} {a : Act} {w : World} {Q : Exit → Act → World → Prop} (hw : Region.wanted o (yielded ops a.tmps) = true) (h : wpList P ops Q ({ o with guard := none } :: rest) a w) : wpList P ops Q (o :: rest) a w := by
  have hw2 : Region.wanted { o with guard := none } (yielded ops a.tmps) = true := by simp [Region.wanted]
  unfold wpList at h ⊢
  rw [if_pos hw2] at h
  rw [if_pos hw]
  exact h
/-- a fresh box of a span, beside what stood -/
theorem boxS {w : World} {x y : Int} {W : World} (hW : W = w.alloc (.cells #[.int .i64 x, .int .i64 y] 31)) : Below w.heap.size w W ∧ W.cell? ⟨w.heap.size, 0, none⟩ = some (.int .i64 x) ∧ W.cell? ⟨w.heap.size, 1, none⟩ = some (.int .i64 y) := by
  subst hW
  exact ⟨(Below.refl _ _).alloc (Nat.le_refl _) _, by simp, by simp⟩
set_option maxRecDepth 100000 in
set_option maxHeartbeats 4000000 in
theorem spans_walk {a : Option Addr} {cap : Nat} {depth : Int} {l : List Nat} (w : World) (ht : Sh w) (hl : l.length ≤ 1048576) (hlo : LM.Lo 256 l) (hcp : l.length ≤ cap) (hr : Rd w .u8 a l) : Calls Tryd.prog 4 #[.slice a l.length cap, .int .i64 depth] w fun r w' => r = .returned (.bool true) ∧ Below w.heap.size w w' := by
  have HT := Lib.hid ht; have HR := Lib.hid hr; have HLO := Lib.hid hlo
  have HC1 := Lib.hid (fun W (h : Rd W .u8 a l) (t : Sh W) => Check_any depth a cap l W (by omega) hlo h t hcp)
  have hm2 := mostF_le depth
  generalize mostF depth = m2 at *
  clear ht hr hlo
  go_enter Tryd.func4, Tryd.ntmps4
  go_wp2_with fail
  refine (vshown_any _ HT.out).mono ?_
  rintro r w1 ⟨rfl, hb⟩
  have G1 : Hid (Goes w w1) := Lib.hid ⟨hb, HT.out.below hb⟩
  have R1 := Lib.hid (HR.out.below hb)
  clear hb HT HR
  go_wp2_with fail
  refine (HC1.out _ R1.out G1.out.2).mono ?_
  rintro r w2 ⟨sp, j, y, ao, ca, hck, rfl, ho, hb⟩
  have G2 := Lib.hid (G1.out.next hb)
  have R2 := Lib.hid (R1.out.below hb)
  have SP := Lib.hid (Ck.spans quo_law hck (Nat.zero_le _))
  have O2 := Lib.hid (OwnV.rdV ho)
  have hsl := (Ck.ge quo_ok hck (Nat.zero_le _)).2
  have hspl := Ck.len hck (Nat.zero_le _)
  clear hb ho hck HC1 G1 R1
  go_upto_region 3 with (fail)
  obtain ⟨hbA, z0, _⟩ := boxF (w := w2) (x := (j : Int)) (y := (y : Int)) rfl
  have G3 := Lib.hid (G2.out.next hbA)
  have R3 := Lib.hid (R2.out.below hbA)
  have O3 := Lib.hid (O2.out.below hbA)
  have Z3 := Lib.hid z0
  clear hbA z0 G2 R2 O2
  generalize hbx : w2.heap.size = bx at *
  clear hbx
  generalize w2.alloc (.cells #[.int .i64 (j : Int), .int .i64 (y : Int)] 26) = w3 at *
  go_wp2_with fail
  go_loopw [8, 9] (fun s8 s9 wr => ∃ (i : Nat) (L : Int), i ≤ sp.length ∧ s8 = .int .i64 L ∧ s9 = .int .i64 i ∧ Hid ((i = 0 ∧ L = -1) ∨ (∃ i' p, i = i' + 1 ∧ sp[i']? = some p ∧ L = (p.2 : Int))) ∧ Hid (Below w3.heap.size w3 wr)) (fun _ s9 _ => sp.length - (intOf s9).toNat)
  case atStart => exact ⟨0, -1, Nat.zero_le _, rfl, rfl, Lib.hid (.inl ⟨rfl, rfl⟩), Lib.hid (Below.refl _ _)⟩
  case round =>
    obtain ⟨i, L, hi, rfl, rfl, HL, HB⟩ := hrel
    have Gr := Lib.hid (G3.out.next HB.out)
    by_cases hlt : i < sp.length
    · have hp := List.getElem?_eq_getElem hlt
      generalize sp[i] = p at *
      obtain ⟨_, s2, s3, s4⟩ := SP.out.1 i p hp
      have hL : L < (p.1 : Int) := by
        rcases HL.out with ⟨_, h⟩ | ⟨i', q, rfl, hq, h⟩
        · omega
        · have := SP.out.2.1 i' q p hq hp
          omega
      have HL2 : Hid ((i + 1 = 0 ∧ (p.2 : Int) = -1) ∨ (∃ i' q, i + 1 = i' + 1 ∧ sp[i']? = some q ∧ (p.2 : Int) = (q.2 : Int))) := Lib.hid (.inr ⟨i, p, rfl, hp, rfl⟩)
      have hone := Txt.one quo_law (m' := 200) s4 hm2 (by omega)
      obtain ⟨b1, o1, rfl, x0, x1⟩ := RdV.span (O3.out.below HB.out) hp
      have Rr := Lib.hid (R3.out.below HB.out)
      obtain ⟨b0, off0, ea, _⟩ := Rr.out p.1 (by omega)
      subst ea
      have Zr := Lib.hid (cellP HB.out Z3.out)
      have ONE := Lib.hid (fun a3 c3 W (hr : Rd W .u8 a3 ((l.drop p.1).take (p.2 - p.1))) (t : Sh W) (hc : ((l.drop p.1).take (p.2 - p.1)).length ≤ c3) => One_yes (cap := c3) (n := p.2 - p.1) hone.1 hone.2.symm (by omega) (lo_takeV (lo_dropV HLO.out p.1) _) hr t hc)
      have HLEN : Hid (((l.drop p.1).take (p.2 - p.1)).length = p.2 - p.1) := Lib.hid hone.2
      obtain ⟨pa, pb⟩ := p
      simp only at s2 s3 hL x0 x1 ONE HLEN HL2
      have n1 : ¬ (pa : Int) ≤ L := by omega
      have n2 : ¬ (pb : Int) ≤ (pa : Int) := by omega
      have n3 : ¬ (j : Int) < (pb : Int) := by omega
      have n4 : ¬ cap = pa := by omega
      have n5 : (pb : Int) ≤ (cap : Int) := by omega
      have n6 : (pa : Int) ≤ (pb : Int) := by omega
      clear hone hp s4 HL hL
      go_upto_region 8 with (fail)
      obtain ⟨hbA, y0, y1⟩ := boxS (w := wr) (x := (pa : Int)) (y := (pb : Int)) rfl
      have G5 := Lib.hid (Gr.out.next hbA)
      have R5 := Lib.hid (Rr.out.below hbA)
      have z0 := cellP hbA Zr.out
      have HB5 := Lib.hid (HB.out.trans (hbA.mono HB.out.size))
      clear hbA Gr Rr Zr HB x0 x1
      generalize hbx : wr.heap.size = bs at *
      clear hbx
      generalize wr.alloc (.cells #[.int .i64 (pa : Int), .int .i64 (pb : Int)] 31) = w5 at *
      have O0 : Hid (Own (w5.alloc (.cells #[] 5)) w5.heap.size 5 .u8 (some ⟨w5.heap.size, 0, none⟩) 0 []) := Lib.hid (World.ownsRow_lit w5 #[] 0 (Nat.le_refl _) (by decide) rfl)
      have B0 : Below w5.heap.size w5 (w5.alloc (.cells #[] 5)) := (Below.refl _ _).alloc (Nat.le_refl _) _
      have R6 := Lib.hid (((R5.out.below B0).dropV pa).takeV (pb - pa))
      have B6 := Lib.hid B0
      have y0a := cellP B0 y0
      have y1a := cellP B0 y1
      clear B0
      go_wp2_with (first | ((with_reducible refine HO9.out.mono ?_); rintro r w9 ⟨rfl, hb⟩; have HB9 := Lib.hid (HB7.out.trans (hb.mono HB7.out.size)); have z9 := cellP (HBw.out.trans (hb.mono HBw.out.size)) y1; clear hb HO9) | (at_builtin; (refine wpList_unguard (by rfl) ?_); (refine wp_ownarg (w5.alloc (.cells #[] 5)) rfl _ _ 22 rfl w5.heap.size 5 Tryd.underlying22 infoU8 _ 0 _ [] rfl rfl O0.out (by simp) (some ⟨b0, off0 + pa, none⟩) _ _ ((l.drop pa).take (pb - pa)) HLEN.out.symm rfl R6.out (fun h => by cases h) (by rw [HLEN.out]; simp; omega) ?_); intro a3 c3 w7 h1 h2; (have HBw : Hid (Below w5.heap.size w5 w7) := Lib.hid (B6.out.trans (h2.mono (Nat.le_refl _)))); (have HB7 := Lib.hid (HB5.out.trans (HBw.out.mono HB5.out.size))); (have h1' : Own w7 w5.heap.size 5 .u8 a3 c3 ((l.drop pa).take (pb - pa)) := h1); (have HO9 := Lib.hid (ONE.out a3 c3 w7 h1'.rd (G5.out.next HBw.out).2 h1'.cap.1)); (have L3 : Hid (([] ++ (l.drop pa).take (pb - pa)).length = pb - pa) := Lib.hid HLEN.out); (rw [L3.out]); clear h1 h1' h2))
      go_roundw
      case rel => exact ⟨i + 1, _, by omega, rfl, by go_num, HL2, HB9⟩
      case measure => simp [intOf]; omega
    · go_wp2
      go_ret
      exact ⟨rfl, (G3.out.1.trans (HB.out.mono G3.out.1.size))⟩
theorem spans_row {a : Option Addr} {len cap : Nat} {x : Int} (w : World) (ht : Sh w) (hb : IsBytes w a len cap) (hl : len ≤ 1048576) (_ : (Lit.int .i64 x).wf = true) : Calls Tryd.prog 4 #[.slice a len cap, .int .i64 x] w fun r w' => r = .returned (.bool true) ∧ Below w.heap.size w w' := by
  obtain ⟨l, rfl, h2, h3, h4, _⟩ := hb
  exact spans_walk w ht hl h3 h4 h2
end Go.Proofs.YtefaieglhllioaaDoor
