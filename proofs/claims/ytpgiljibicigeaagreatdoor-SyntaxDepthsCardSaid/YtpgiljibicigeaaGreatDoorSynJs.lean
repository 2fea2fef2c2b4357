/- syntax: one more behind a row that may be none; texts walked. -/
import Derived.Test.YtpgiljibicigeaaGreatDoorSynEs
set_option linter.unusedVariables false
set_option linter.unusedSimpArgs false
namespace Go.Proofs.YtpgiljibicigeaaGreatDoor
open Go.RowKit SX

theorem wp_rowS {ops : Array Oper} {rest : List Oper} {o : Oper} {a : Act} {Q : Exit → Act → World → Prop} (w0 : World) (hg : o.guard = none) (s x : Operand)
    (hop : o.op = Op.call { callee := Callee.builtin Builtin.append, args := #[s, x], argTypes := #[47, 47] })
    {l m b cap : Nat} {ao : Option Addr} {ks : List Nd} {bs : List Nat} {y : Nd} (e' : TypeId) (hs : a.eval s = .slice ao ks.length cap)
    (hx : a.eval x = .slice (some ⟨w0.heap.size, 0, none⟩) 1 1)
    (hrow : RowS w0 l ao cap ks bs) (hy : PR w0 m y b) (hm : ∀ q, ao = some ⟨q, 0, none⟩ → q ≤ m) (hlm : l ≤ m) (hn : ks.length ≤ 1000000) (hB : l < w0.heap.size)
    (hK : ∀ ao' cap' w', RowS w' l ao' cap' (ks ++ [y]) (bs ++ [b]) → Below (l + 1) w0 w' → Oth w0 w' ao → (∀ q, ao' = some ⟨q, 0, none⟩ → ao = some ⟨q, 0, none⟩ ∨ w0.heap.size ≤ q) → wpList Tryz.prog ops Q rest (a.put o.dst (.slice ao' (ks.length + 1) cap')) w') :
    wpList Tryz.prog ops Q (o :: rest) a (w0.alloc (.cells #[ptr b] e')) := by
  rcases hrow.own.shape with ⟨h1, h2, h3, _⟩ | ⟨q, cur, h1, _, _⟩
  · have hk0 : ks = [] := List.length_eq_zero_iff.1 (by omega)
    subst hk0
    have hbs : bs = [] := List.length_eq_zero_iff.1 hrow.len
    subst hbs
    have hc0 : cap = 0 := by
      rcases hrow.own.2 with ⟨h, _⟩ | ⟨g, c, cur, h, _⟩
      · cases h; rfl
      · rw [h1] at h; cases h
    subst h1 hc0
    refine wp_row w0 hg s x 47 hop w0.heap.size 44 (.pointer none) 1 8 Tryz.underlying47 infoPt rfl (by decide) none 0 0 [] hs #[ptr b] rfl (by intro u hu; simp at hu; subst hu; rfl) e' hx (OwnV.nil _ _ _ _) (by decide) (by unfold maxLen; decide) (Nat.le_refl _) ?_
    intro ao' cap' w' ho hb hoth
    have hsh : ∃ q, ao' = some ⟨q, 0, none⟩ ∧ w0.heap.size ≤ q := by
      rcases ho.shape with ⟨h1, h2, _⟩ | ⟨q, cur, h1, h2, _⟩
      · omega
      · exact ⟨q, h1, h2⟩
    obtain ⟨q, rfl, hq⟩ := hsh
    refine hK (some ⟨q, 0, none⟩) cap' w' ⟨ho.mono (by omega), rfl, fun i z hz => ?_⟩ (hb.mono (by omega)) hoth (fun q2 h => by injection h with h; injection h with h; right; omega)
    match i, hz with
    | 0, hz =>
      obtain rfl : y = z := by simpa using hz
      exact ⟨b, rfl, PRA.to (fun k hk hs => ⟨hoth.2 k hs (by simp), by omega, by simp <;> omega⟩) hy⟩
    | i + 1, hz => simp at hz
  · subst h1
    refine wp_rowP w0 hg s x hop (l + 1) q cap ks.length (bs.map ptr) b e' hs hx hrow.own hn (by omega) ?_
    intro q' cap' w' h1 h2 h3 h4
    exact hK _ cap' w' (hrow.more h1 h3 h4 hy (hm q rfl) hlm) h2 h3 (fun q2 h => by
      injection h with h; injection h with h
      rcases h4 with h4 | h4
      · left; rw [← h, h4]
      · right; omega)
theorem RowS.prs {w : World} {l cap : Nat} {ao : Option Addr} {ks : List Nd} {bs : List Nat} (h : RowS w l ao cap ks bs) : PRs w (fun k => l < k) ks ao 0 := by
  rcases h.own.shape with ⟨h1, h2, _⟩ | ⟨q, cur, h1, h2, _⟩
  · have : ks = [] := List.length_eq_zero_iff.1 (by omega)
    subst this; unfold PRs; trivial
  · subst h1
    refine prs_mk (show l < q by omega) ks 0 fun i x hx => ?_
    obtain ⟨b, hb, hp⟩ := h.it i x hx
    refine ⟨b, ?_, hp.to (fun k hk _ => ⟨rfl, hk.1⟩)⟩
    rw [Nat.zero_add]
    exact h.own.cellAt (by rw [List.getElem?_map, hb]; rfl)
theorem RowS.none (w : World) (l : Nat) : RowS w l Option.none 0 [] [] := ⟨OwnV.nil _ _ _ _, rfl, fun i x hx => by simp at hx⟩
/-- a function with a body is entered -/
theorem cf_of {F : Nat} {fn : Func} (hf : Tryz.prog.funcs[F]? = some fn) (hn : (fn.name == "runtime.NumGoroutine") = false) (hb : fn.body.isNone = false) (args : Array Value) (w : World) : (callFunc F args).run Tryz.prog w = .ok (.enter F args) w := by
  have h1 : fn.name ≠ "runtime.NumGoroutine" := by simpa using hn
  have h2 : fn.body ≠ none := by intro h; rw [h] at hb; cases hb
  simp [callFunc, go_sem, hf, h1, h2]
/-- what stands in the loop of a text -/
def TxI (v : Ev) (g pp l : Nat) (w0 wr : World) (acc : List Nd) (i : Nat) (ao : Option Addr) (cap : Nat) (bs : List Nat) : Prop := RowS wr l ao cap acc bs ∧ PB v wr g i pp ∧ w0.grownBy wr (some g) ∧ acc.length ≤ i ∧ ∀ q, ao = some ⟨q, 0, none⟩ → w0.heap.size ≤ q
theorem gb_appO {w w4 w5 : World} {g B : Nat} {ao : Option Addr} (h : w.grownBy w4 (some g)) (hb : Below B w4 w5) (ho : Oth w4 w5 ao) (hq : ∀ q, ao = some ⟨q, 0, Option.none⟩ → w.heap.size ≤ q) : w.grownBy w5 (some g) :=
  ⟨hb.os.trans h.os, hb.tape.trans h.tape, hb.output.trans h.output, Nat.le_trans h.size hb.size, fun k hk hne => (ho.2 k (Nat.lt_of_lt_of_le hk h.size) (fun e => by have := hq k e; omega)).trans (h.block k hk hne)⟩
end Go.Proofs.YtpgiljibicigeaaGreatDoor

/- syntax: texts walked. -/
namespace Go.Proofs.YtpgiljibicigeaaGreatDoor
open Go.RowKit SX

set_option maxRecDepth 100000 in
set_option maxHeartbeats 8000000 in
theorem syText {v : Ev} {g n : Nat} {K : Kn} (hA : Hid (EvA v)) (hK : Hid (HKs v g K n)) (hI : Hid (IvK v K)) (fmt : ByteArray) {i : Nat} (hn : v.L.length - i < n + 1)
    (w : World) (pp l : Nat) (hgl : g ≤ l) (hlw : l < w.heap.size) (h : PB v w g i pp) :
    Calls Tryz.prog 96 #[ptr g, .string fmt] w (Out v g pp w (textF v K pp fmt i) (VN l)) := by
  have HLE := Lib.hid hA.out.k.len
  have HL : Hid (g ≤ l ∧ l < w.heap.size) := Lib.hid ⟨hgl, hlw⟩
  have HN := Lib.hid hn
  have hc := syTake hA.out.k h 7 (by decide)
  have hi := tak_iv hA.out.q h.il (k := 7) (by decide)
  obtain ⟨R1, hR1⟩ : ∃ R, tak v 7 i = R := ⟨_, rfl⟩
  obtain ⟨R, hR⟩ : ∃ R, textF v K pp fmt i = R := ⟨_, rfl⟩
  have hivt := textF_iv hA.out.q hI.out pp fmt h.il
  rw [hR] at hivt
  rw [hR]
  have hR' := hR
  unfold textF at hR'
  rw [hR1] at hc hi hR'
  have HC := Lib.hid hc; have HI := Lib.hid hi
  have HR := Lib.hid hR'; have HIV := Lib.hid hivt
  clear hc hi hR1 hR hR' h hgl hlw hn hivt
  go_enter Tryz.func96, Tryz.ntmps96
  go_wp2_with fail
  refine HC.out.mono ?_
  intro e w1 ho
  clear HC
  rcases out_cases ho with ⟨x, j, u, rfl, rfl, hv, hp, hb⟩ | ⟨a, er, rfl, rfl, hb⟩
  · obtain rfl := hv
    have hpi : T1 v i x j := HI.out
    have HTI : Hid (TxI v g pp l w w1 [] j none 0 []) := Lib.hid ⟨RowS.none _ _, hp, hb, Nat.zero_le _, fun q h => by cases h⟩
    have HRL : Hid ((textL v K pp (v.L.length + 1) [] j).bind (fun ks k => .ok (.mk 4 fmt ks) k) = R) := Lib.hid HR.out
    have HJ : Hid (i < j) := Lib.hid (by have := hpi.1; omega)
    clear ho hp hb hpi HI HR
    go_wp2_with fail
    go_loopg [5] (v.L.length + 1) (fun gk s5 wr => ∃ (acc : List Nd) (bs : List Nat) (k cap : Nat) (ao : Option Addr), v.L.length < k + gk ∧ s5 = .slice ao acc.length cap ∧ Hid (TxI v g pp l w wr acc k ao cap bs) ∧ Hid ((textL v K pp gk acc k).bind (fun ks k => .ok (.mk 4 fmt ks) k) = R) ∧ Hid (i < k))
    case atStart => exact ⟨[], [], j, 0, none, by omega, rfl, HTI, HRL, HJ⟩
    case round =>
      obtain ⟨acc, bs, k, cap, ao, hk, rfl, HTI, HRL, HJ⟩ := hrel
      obtain ⟨hrow, hpb, hgb, hal, hq0⟩ := HTI.out
      have hkl := hpb.il
      have hlen := HLE.out
      obtain ⟨f, rfl⟩ : ∃ f, gk = f + 1 := ⟨gk - 1, by omega⟩
      have hrl := HRL.out
      rw [textL] at hrl
      have HRL2 := Lib.hid hrl
      have HAL : Hid (acc.length ≤ k ∧ k ≤ v.L.length ∧ v.L.length < k + (f + 1)) := Lib.hid ⟨hal, hkl, hk⟩
      have HNX := Lib.hid (syNext hA.out.k hpb)
      have HROW := Lib.hid hrow; have HPB := Lib.hid hpb; have HGB := Lib.hid hgb; have HQ0 := Lib.hid hq0
      have ft := fieldTok0
      clear hrow hpb hgb hrl HTI HRL hal hkl hk hlen hq0
      by_cases h8 : (tkn v k).1 = 8
      · have ht : tak v 8 k = .ok (tkn v k).2.1 (k + 1) := if_pos h8
        have q8 : (((tkn v k).1 : Int) == 8) = true := by rw [h8]; rfl
        have hrl := HRL2.out
        rw [if_pos h8] at hrl
        have HR3 := Lib.hid hrl; have HT := Lib.hid ht
        have HJ8 : Hid (k < v.L.length) := Lib.hid (tkn_lt h8 (by decide))
        clear h8 ht hrl HRL2
        go_wp2_with fail
        refine HNX.out.mono ?_
        rintro e w2 ⟨rfl, hb⟩
        have HROW2 := Lib.hid (HROW.out.keep (gbOfB (g := g) hb) HL.out.1); have HPB2 := Lib.hid (HPB.out.below hb); have HGB2 := Lib.hid (gb_trans HGB.out (gbOfB hb))
        unfold nxV
        clear hb HROW HPB HGB HNX
        have hc2 := syTake hA.out.k HPB2.out 8 (by decide)
        rw [HT.out] at hc2
        have HC2 := Lib.hid hc2
        clear hc2
        go_wp2_with fail
        refine HC2.out.mono ?_
        rintro e w3 ⟨u, rfl, hv, hp, hb⟩
        obtain rfl := hv
        have HROW3 := Lib.hid (HROW2.out.keep hb HL.out.1); have HPB3 := Lib.hid hp; have HGB3 := Lib.hid (gb_trans HGB2.out hb)
        have HC3 := Lib.hid (syNew0 (w := w3) (g := w3.heap.size - 1) (by have := hp.lt; omega) 5 (tkn v k).2.1)
        clear hp hb HROW2 HPB2 HGB2 HC2
        go_wp2_with fail
        refine HC3.out.mono ?_
        rintro e w4 ⟨b, rfl, hb, hx⟩
        have HROW4 := Lib.hid (HROW3.out.keep (gbOfB (g := g) hb) HL.out.1); have HPB4 := Lib.hid (HPB3.out.below hb); have HGB4 := Lib.hid (gb_trans HGB3.out (gbOfB hb)); have HX4 := Lib.hid hx
        have HQ : Hid ((∀ q, ao = some ⟨q, 0, none⟩ → q ≤ w3.heap.size - 1) ∧ l ≤ w3.heap.size - 1 ∧ l < w4.heap.size) := Lib.hid ⟨fun q hq => by have := HROW3.out.own.low q hq; omega, by have := Nat.lt_of_lt_of_le HL.out.2 HGB3.out.size; omega, Nat.lt_of_lt_of_le HL.out.2 HGB4.out.size⟩
        clear hb hx HROW3 HPB3 HGB3 HC3 q8 ft
        go_wp2_with (at_builtin; refine wp_rowS _ rfl _ _ rfl _ rfl rfl HROW4.out HX4.out HQ.out.1 HQ.out.2.1 (by have := HAL.out; have := HLE.out; omega) HQ.out.2.2 ?_; intro ao5 cap5 w5 e1 e2 e3 e4)
        have HROW5 := Lib.hid e1
        have HPB5 : Hid (PB v w5 g (k + 1) pp) := Lib.hid (HPB4.out.bel2 e2 HL.out.1)
        have HGB5 : Hid (w.grownBy w5 (some g)) := Lib.hid (gb_appO HGB4.out e2 e3 HQ0.out)
        have HQ5 : Hid (∀ q, ao5 = some ⟨q, 0, none⟩ → w.heap.size ≤ q) := Lib.hid (fun q h => (e4 q h).elim (fun h => HQ0.out q h) (fun h => Nat.le_trans HGB4.out.size h))
        clear e1 e2 e3 e4 HROW4 HPB4 HGB4 HX4
        go_wp2
        go_roundg f
        case measure => omega
        case rel => exact ⟨acc ++ [.mk 5 (tkn v k).2.1 []], bs ++ [b], k + 1, cap5, ao5, by have := HAL.out; omega, by rw [List.length_append]; rfl, Lib.hid ⟨HROW5.out, HPB5.out, HGB5.out, by have := HAL.out; rw [List.length_append]; simp; omega, HQ5.out⟩, HR3, Lib.hid (by have := HJ.out; omega)⟩
      have q8 : (((tkn v k).1 : Int) == 8) = false := by rw [beq_eq_false_iff_ne]; omega
      by_cases h9 : (tkn v k).1 = 9
      · have ht : tak v 9 k = .ok (tkn v k).2.1 (k + 1) := if_pos h9
        have q9 : (((tkn v k).1 : Int) == 9) = true := by rw [h9]; rfl
        have hrl := HRL2.out
        rw [if_neg h8, if_pos h9] at hrl
        have HJ9 : Hid (k < v.L.length) := Lib.hid (tkn_lt h9 (by decide))
        have HT := Lib.hid ht
        obtain ⟨R2, hR2⟩ : ∃ R, K.pipe pp (k + 1) = R := ⟨_, rfl⟩
        rw [hR2] at hrl
        have HR3 := Lib.hid hrl; have HR2 := Lib.hid hR2
        clear h8 h9 ht hrl HRL2 hR2
        go_wp2_with fail
        refine HNX.out.mono ?_
        rintro e w2 ⟨rfl, hb⟩
        have HROW2 := Lib.hid (HROW.out.keep (gbOfB (g := g) hb) HL.out.1); have HPB2 := Lib.hid (HPB.out.below hb); have HGB2 := Lib.hid (gb_trans HGB.out (gbOfB hb))
        unfold nxV
        clear hb HROW HPB HGB HNX
        have hc2 := syTake hA.out.k HPB2.out 9 (by decide)
        rw [HT.out] at hc2
        have HC2 := Lib.hid hc2
        clear hc2
        go_wp2_with fail
        refine HC2.out.mono ?_
        rintro e w3 ⟨u, rfl, hv, hp, hb⟩
        obtain rfl := hv
        have HROW3 := Lib.hid (HROW2.out.keep hb HL.out.1); have HPB3 := Lib.hid hp; have HGB3 := Lib.hid (gb_trans HGB2.out hb)
        have hc3 := hK.out.pipe (k + 1) (by have := HN.out; have := HJ.out; have := HJ9.out; omega) w3 pp (w3.heap.size - 1) (by have := hp.lt; omega) (by have := hp.lt; omega) hp
        have hi3 := hI.out.pipe pp (k + 1) hp.il
        rw [HR2.out] at hc3 hi3
        have HC3 := Lib.hid hc3; have HI3 := Lib.hid hi3
        clear hp hb HROW2 HPB2 HGB2 HC2 hc3 hi3 HR2
        go_wp2_with fail
        refine HC3.out.mono ?_
        intro e w4 ho
        clear HC3
        rcases out_cases ho with ⟨x3, j3, u, rfl, rfl, hv, hp, hb⟩ | ⟨a, er, rfl, rfl, hb⟩
        · obtain ⟨b, rfl, hx⟩ := hv
          have ht3 : P1 v 0 (k + 1) x3 j3 := HI3.out
          have HROW4 := Lib.hid (HROW3.out.keep hb HL.out.1); have HPB4 := Lib.hid hp; have HGB4 := Lib.hid (gb_trans HGB3.out hb); have HX4 := Lib.hid hx
          have HJ3 : Hid (k + 1 < j3 ∧ j3 ≤ v.L.length) := Lib.hid ⟨ht3.1, ht3.2.1⟩
          have hr4 : (((tak v 10 j3).bind fun _ m => textL v K pp f (acc ++ [x3]) m).bind (fun ks k => .ok (.mk 4 fmt ks) k)) = R := HR3.out
          have HR4 := Lib.hid hr4
          have HQ : Hid ((∀ q, ao = some ⟨q, 0, none⟩ → q ≤ w3.heap.size - 1) ∧ l ≤ w3.heap.size - 1 ∧ l < w4.heap.size) := Lib.hid ⟨fun q hq => by have := HROW3.out.own.low q hq; omega, by have := Nat.lt_of_lt_of_le HL.out.2 HGB3.out.size; omega, Nat.lt_of_lt_of_le HL.out.2 HGB4.out.size⟩
          clear ho hp hb hx ht3 hr4 HR3 HI3 HROW3 HPB3 HGB3 q8 q9 ft
          go_wp2_with (at_builtin; refine wp_rowS _ rfl _ _ rfl _ rfl rfl HROW4.out HX4.out HQ.out.1 HQ.out.2.1 (by have := HAL.out; have := HLE.out; omega) HQ.out.2.2 ?_; intro ao5 cap5 w5 e1 e2 e3 e4)
          have HROW5 := Lib.hid e1
          have HPB5 : Hid (PB v w5 g j3 pp) := Lib.hid (HPB4.out.bel2 e2 HL.out.1)
          have HGB5 : Hid (w.grownBy w5 (some g)) := Lib.hid (gb_appO HGB4.out e2 e3 HQ0.out)
          have HQ5 : Hid (∀ q, ao5 = some ⟨q, 0, none⟩ → w.heap.size ≤ q) := Lib.hid (fun q h => (e4 q h).elim (fun h => HQ0.out q h) (fun h => Nat.le_trans HGB4.out.size h))
          clear e1 e2 e3 e4 HROW4 HPB4 HGB4 HX4
          obtain ⟨R5, hR5⟩ : ∃ R, tak v 10 j3 = R := ⟨_, rfl⟩
          have hc5 := syTake hA.out.k HPB5.out 10 (by decide)
          have hi5 := tak_iv hA.out.q HPB5.out.il (k := 10) (by decide)
          have hr5 := HR4.out
          rw [hR5] at hc5 hi5 hr5
          have HC5 := Lib.hid hc5; have HI5 := Lib.hid hi5; have HR5 := Lib.hid hr5
          clear hR5 hc5 hi5 hr5 HR4
          go_wp2_with fail
          refine HC5.out.mono ?_
          intro e w6 ho
          clear HC5
          rcases out_cases ho with ⟨x6, j6, u, rfl, rfl, hv, hp, hb⟩ | ⟨a, er, rfl, rfl, hb⟩
          · obtain rfl := hv
            have ht6 : T1 v j3 x6 j6 := HI5.out
            have HROW6 := Lib.hid (HROW5.out.keep hb HL.out.1); have HPB6 := Lib.hid hp; have HGB6 := Lib.hid (gb_trans HGB5.out hb)
            have HJ6 : Hid (j6 = j3 + 1) := Lib.hid ht6.1
            have HR6 : Hid ((textL v K pp f (acc ++ [x3]) j6).bind (fun ks k => .ok (.mk 4 fmt ks) k) = R) := Lib.hid HR5.out
            clear ho hp hb ht6 HI5 HR5 HROW5 HPB5 HGB5
            go_wp2
            go_roundg f
            case measure => omega
            case rel => exact ⟨acc ++ [x3], bs ++ [b], j6, cap5, ao5, by have := HAL.out; have := HJ3.out; have := HJ6.out; omega, by rw [List.length_append]; rfl, Lib.hid ⟨HROW6.out, HPB6.out, HGB6.out, by have := HAL.out; have := HJ3.out; have := HJ6.out; rw [List.length_append]; simp; omega, HQ5.out⟩, HR6, Lib.hid (by have := HJ.out; have := HJ3.out; have := HJ6.out; omega)⟩
          · have HG := Lib.hid (gb_trans HGB5.out hb)
            have HE : Hid (R = Rs.err a er) := Lib.hid HR5.out.symm
            clear ho hb HI5 HR5 HROW5 HPB5 HGB5
            go_wp2
            refine ⟨rfl, ?_⟩
            rw [HE.out]
            exact ⟨rfl, HG.out⟩
        · have HG := Lib.hid (gb_trans HGB3.out hb)
          have HE : Hid (R = Rs.err a er) := Lib.hid HR3.out.symm
          clear ho hb HI3 HR3 HROW3 HPB3 HGB3
          go_wp2
          refine ⟨rfl, ?_⟩
          rw [HE.out]
          exact ⟨rfl, HG.out⟩
      · have q9 : (((tkn v k).1 : Int) == 9) = false := by rw [beq_eq_false_iff_ne]; omega
        obtain ⟨R2, hR2⟩ : ∃ R, tak v 11 k = R := ⟨_, rfl⟩
        have hrl := HRL2.out
        rw [if_neg h8, if_neg h9, hR2] at hrl
        have HR3 := Lib.hid hrl; have HR2 := Lib.hid hR2
        clear h8 h9 hrl HRL2 hR2
        go_wp2_with fail
        refine HNX.out.mono ?_
        rintro e w2 ⟨rfl, hb⟩
        have HROW2 := Lib.hid (HROW.out.keep (gbOfB (g := g) hb) HL.out.1); have HPB2 := Lib.hid (HPB.out.below hb); have HGB2 := Lib.hid (gb_trans HGB.out (gbOfB hb))
        unfold nxV
        clear hb HROW HPB HGB HNX
        have hc2 := syTake hA.out.k HPB2.out 11 (by decide)
        have hi2 := tak_iv hA.out.q HPB2.out.il (k := 11) (by decide)
        rw [HR2.out] at hc2 hi2
        have HC2 := Lib.hid hc2; have HI2 := Lib.hid hi2
        clear hc2 hi2 HR2
        go_wp2_with fail
        refine HC2.out.mono ?_
        intro e w3 ho
        clear HC2
        rcases out_cases ho with ⟨x3, j3, u, rfl, rfl, hv, hp, hb⟩ | ⟨a, er, rfl, rfl, hb⟩
        · obtain rfl := hv
          have HROW3 := Lib.hid (HROW2.out.keep hb HL.out.1); have HPB3 := Lib.hid hp; have HGB3 := Lib.hid (gb_trans HGB2.out hb)
          have hE : Rs.ok (Nd.mk 4 fmt acc) j3 = R := HR3.out
          have hdp : dps acc ≤ 10000000 := by
            have h1 := HIV.out
            rw [← hE] at h1
            have h2 : P4 v i (Nd.mk 4 fmt acc) j3 := h1
            have h3 := h2.2.2.1
            have h4 := h2.2.1
            have := HLE.out
            simp only [dpt] at h3
            omega
          have HC3 := Lib.hid (syNewPart 4 fmt acc ao cap (fun k => l < k) w3 HROW3.out.prs (Nat.lt_of_lt_of_le HL.out.2 HGB3.out.size) hdp (by have := HAL.out; have := HLE.out; omega))
          have HE := Lib.hid hE
          clear ho hp hb HI2 HR3 hE hdp HROW2 HPB2 HGB2 q8 q9 ft
          go_wp2_with fail
          refine HC3.out.mono ?_
          rintro e w4 ⟨rfl, hb, hx⟩
          have HF : Hid (Out v g pp w R (VN l) (.returned (ptr w3.heap.size)) w4) := Lib.hid (by
            rw [← HE.out]
            exact ⟨_, rfl, ⟨_, rfl, hx⟩, HPB3.out.below hb, gb_trans HGB3.out (gbOfB hb)⟩)
          clear hb hx HROW3 HPB3 HGB3 HC3
          go_wp2
          go_ret
          exact HF.out
        · have HG := Lib.hid (gb_trans HGB2.out hb)
          have HE : Hid (R = Rs.err a er) := Lib.hid HR3.out.symm
          clear ho hb HI2 HR3 HROW2 HPB2 HGB2
          go_wp2
          refine ⟨rfl, ?_⟩
          rw [HE.out]
          exact ⟨rfl, HG.out⟩
  · have HG := Lib.hid hb
    have HE : Hid (R = Rs.err a er) := Lib.hid HR.out.symm
    clear ho hb HI HR
    go_wp2
    refine ⟨rfl, ?_⟩
    rw [HE.out]
    exact ⟨rfl, HG.out⟩
end Go.Proofs.YtpgiljibicigeaaGreatDoor
