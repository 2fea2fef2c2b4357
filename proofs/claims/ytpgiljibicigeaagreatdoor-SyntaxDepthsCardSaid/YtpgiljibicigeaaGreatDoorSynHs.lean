/- syntax: append of one element, and where the row stands then. -/
import Derived.Test.YtpgiljibicigeaaGreatDoorSynDs
import Derived.Deep.DeepAppendWide
set_option linter.unusedVariables false
set_option linter.unusedSimpArgs false
namespace Go.Proofs.YtpgiljibicigeaaGreatDoor
open Go.RowKit SX

theorem infoPt : (Tryz.prog.info? 44).map (fun i => (i.zero, i.size, i.bytes)) = some (some (.pointer none), 1, 8) := by kernel_rfl
set_option maxRecDepth 100000 in
theorem append_at {W : World} {ty : TypeId} {i : TypeInfo} {B g n cap : Nat} {xs : List Value} {e : TypeId} {z : Value} (ht : Tryz.prog.underlying 47 = some (.slice e)) (hi : Tryz.prog.info? e = some i) (hz : i.zero = some z) (h1 : i.size = 1) (h8 : i.bytes = 8)
    (hown : W.ownsRow B e 1 (.slice (some ⟨g, 0, none⟩) n cap) n xs) {a : Addr} {c : Nat} {u : Value} (hu : W.cell? (a.add 0) = some u) (ho : u.oneCell' = true) (hn : n ≤ 1000000) {v' : Value} {w' : World}
    (hr : (Builtin.append_ #[47, 47] ty #[.slice (some ⟨g, 0, none⟩) n cap, .slice (some a) 1 c]).run Tryz.prog W = .ok v' w') : v'.ownBlock = some g ∨ v'.ownBlock = some W.heap.size := by
  rcases hown.2 with ⟨h, _⟩ | ⟨g2, cap2, cur, h, _, hg, hnc, hcm, hcs, _⟩
  · cases h
  · cases h
    have hnews : ∀ j v, [u][j]? = some v → W.cell? (a.add j) = some v := fun j v hj => by
      cases j with
      | zero => obtain rfl : u = v := by simpa using hj
                exact hu
      | succ j => simp at hj
    by_cases hroom : n + 1 ≤ cap
    · rw [run_append_room (P := Tryz.prog) W 47 ty e i ht hi g n cap cur hg a 1 c [u] (by simp [h1]) hnews (by simpa using ho) hroom (by simp [h1, hcs]; omega)] at hr
      left
      obtain ⟨hv, _⟩ := Result.ok.inj hr
      rw [← hv]; rfl
    · have holds := hown.cells (g := g) rfl
      rw [run_append_grow (P := Tryz.prog) W 47 ty e i z ht hi hz ⟨g, 0, none⟩ n cap xs (by rw [h1]; exact hown.1) holds a 1 c [u] (by simp [h1]) hnews (by omega) (by omega) (by
        rw [h8]
        exact growslice_fits_wide (by omega) (by omega))] at hr
      right
      obtain ⟨hv, _⟩ := Result.ok.inj hr
      rw [← hv]; rfl
/-- one part's pointer more -/
theorem wp_rowP {ops : Array Oper} {rest : List Oper} {o : Oper} {a : Act} {Q : Exit → Act → World → Prop} (w0 : World) (hg : o.guard = none) (s x : Operand)
    (hop : o.op = Op.call { callee := Callee.builtin Builtin.append, args := #[s, x], argTypes := #[47, 47] })
    (B q cap n : Nat) (xs : List Value) (b : Nat) (e' : TypeId) (hs : a.eval s = .slice (some ⟨q, 0, none⟩) n cap)
    (hx : a.eval x = .slice (some ⟨w0.heap.size, 0, none⟩) 1 1)
    (hown : OwnV w0 B 44 1 (some ⟨q, 0, none⟩) n cap xs) (hn : n ≤ 1000000) (hB : B ≤ w0.heap.size)
    (hK : ∀ q' cap' w', OwnV w' B 44 1 (some ⟨q', 0, none⟩) (n + 1) cap' (xs ++ [ptr b]) → Below B w0 w' → Oth w0 w' (some ⟨q, 0, none⟩) → (q' = q ∨ w0.heap.size ≤ q') → wpList Tryz.prog ops Q rest (a.put o.dst (.slice (some ⟨q', 0, none⟩) (n + 1) cap')) w') :
    wpList Tryz.prog ops Q (o :: rest) a (w0.alloc (.cells #[ptr b] e')) := by
  obtain ⟨i, hi, hz0, hz1, hz2⟩ := info_parts infoPt
  have hown' : (w0.alloc (.cells #[ptr b] e')).ownsRow B 44 1 (.slice (some ⟨q, 0, none⟩) n cap) n xs := World.ownsRow.alloc hown _
  have hc : (w0.alloc (.cells #[ptr b] e')).cell? ((⟨w0.heap.size, 0, none⟩ : Addr).add 0) = some (ptr b) := cell_new rfl
  have hnews : ∀ j v, [ptr b][j]? = some v → (w0.alloc (.cells #[ptr b] e')).cell? ((⟨w0.heap.size, 0, none⟩ : Addr).add j) = some v := fun j v hj => by
    cases j with
    | zero => obtain rfl : ptr b = v := by simpa using hj
              exact hc
    | succ j => simp at hj
  refine wpList_plain hg fun K hK2 => ?_
  obtain ⟨v', w', hr, h2, h3, h4⟩ := run_append_own_wide (P := Tryz.prog) (w0.alloc (.cells #[ptr b] e')) B 47 o.type 44 i (.pointer none) 1 8 Tryz.underlying47 hi hz0 hz1 hz2 rfl (by decide) _ _ _ hown' ⟨w0.heap.size, 0, none⟩ 1 1 [ptr b] rfl hnews (by intro u hu; simp at hu; subst hu; rfl) (by unfold maxLen; omega) (by omega) (by simp; omega)
  have hw := append_at (ty := o.type) Tryz.underlying47 hi hz0 hz1 hz2 hown' hc rfl hn hr
  unfold Oper.wp execOp
  simp only [hop, resolve, invoke, builtin, Sem.run_bind, Sem.run_pure, Result.andThen_ok, List.map_toArray, List.map_cons, List.map_nil, hs, hx, hr]
  refine hK2 _ _ ?_
  have hsh : ∃ q' cap', v' = .slice (some ⟨q', 0, none⟩) (n + 1) cap' := by
    rcases h2.2 with ⟨h1, h2⟩ | ⟨g, cap', cur, h1, _⟩
    · omega
    · exact ⟨_, _, h1⟩
  obtain ⟨q', cap', rfl⟩ := hsh
  refine hK q' cap' w' h2 ?_ ⟨?_, fun k hk ha => ?_⟩ ?_
  · exact ((Below.refl B w0).alloc hB _).grown h3 (by simp; omega) (fun j hj => (hown'.lt j hj).1)
  · have := h3.size
    simp at this; omega
  · rw [h3.block k (by simp; omega) (fun hk2 => ha (by simp [Value.ownBlock] at hk2; rw [hk2]))]
    exact heap_alloc_old w0 _ hk
  · rcases hw with h | h
    · left; simpa [Value.ownBlock] using h
    · right
      have : q' = (w0.alloc (.cells #[ptr b] e')).heap.size := by simpa [Value.ownBlock] using h
      rw [this]; simp
end Go.Proofs.YtpgiljibicigeaaGreatDoor

/- syntax: rows of items walked. -/
namespace Go.Proofs.YtpgiljibicigeaaGreatDoor
open Go.RowKit SX

/-- the items of a row that stands at ao: none of their blocks is it -/
def Its (w : World) (l : Nat) (ao : Option Addr) (ks : List Nd) (bs : List Nat) : Prop := ∀ (i : Nat) (x : Nd), ks[i]? = some x → ∃ b, bs[i]? = some b ∧ PRA w (fun k => l < k ∧ ao ≠ some ⟨k, 0, none⟩) x b
structure RowS (w : World) (l : Nat) (ao : Option Addr) (cap : Nat) (ks : List Nd) (bs : List Nat) : Prop where
  own : OwnV w (l + 1) 44 1 ao ks.length cap (bs.map ptr)
  len : bs.length = ks.length
  it : Its w l ao ks bs
def VL (l : Nat) : List Nd → Value → World → Prop := fun ks u w' => ∃ ao cap bs, u = .slice ao ks.length cap ∧ RowS w' l ao cap ks bs ∧ ks.length ≤ 100000
theorem RowS.keep {w w' : World} {g l : Nat} {ao : Option Addr} {cap : Nat} {ks : List Nd} {bs : List Nat} (h : RowS w l ao cap ks bs) (hb : w.grownBy w' (some g)) (hl : g ≤ l) : RowS w' l ao cap ks bs :=
  ⟨h.own.gbl hb (by omega), h.len, fun i x hx => by
    obtain ⟨b, h1, h2⟩ := h.it i x hx
    exact ⟨b, h1, h2.to (fun k hk hs => ⟨hb.block k hs (by simp; omega), hk⟩)⟩⟩
theorem RowS.one {w : World} {l b : Nat} {x : Nd} (hl : l < w.heap.size) (hx : PR w l x b) : RowS (w.alloc (.cells #[ptr b] 44)) l (some ⟨w.heap.size, 0, none⟩) 1 [x] [b] :=
  ⟨World.ownsRow_lit w #[ptr b] 1 hl (by unfold maxLen; omega) rfl, rfl, fun i y hy => by
    match i, hy with
    | 0, hy =>
      obtain rfl : x = y := by simpa using hy
      exact ⟨b, rfl, PRA.to (fun k hk hs => ⟨heap_alloc_old w _ hs, hk, by simp <;> omega⟩) hx⟩
    | i + 1, hy => simp at hy⟩
/-- one more behind them: x's blocks are all newer than the row -/
theorem RowS.more {w w' : World} {l q q' cap cap' b : Nat} {ks : List Nd} {bs : List Nat} {x : Nd} {m : Nat} (h : RowS w l (some ⟨q, 0, none⟩) cap ks bs) (ho : OwnV w' (l + 1) 44 1 (some ⟨q', 0, none⟩) (ks.length + 1) cap' (bs.map ptr ++ [ptr b])) (hoth : Oth w w' (some ⟨q, 0, none⟩)) (hq : q' = q ∨ w.heap.size ≤ q') (hx : PR w m x b) (hqm : q ≤ m) (hlm : l ≤ m) :
    RowS w' l (some ⟨q', 0, none⟩) cap' (ks ++ [x]) (bs ++ [b]) := by
  refine ⟨by rw [List.length_append, List.map_append]; exact ho, by simp [h.len], fun i y hy => ?_⟩
  rcases Nat.lt_or_ge i ks.length with hi | hi
  · rw [List.getElem?_append_left hi] at hy
    obtain ⟨c, h1, h2⟩ := h.it i y hy
    refine ⟨c, by rw [List.getElem?_append_left (by rw [h.len]; exact hi)]; exact h1, h2.to (fun k hk hs => ⟨hoth.2 k hs hk.2.symm.symm, hk.1, ?_⟩)⟩
    rcases hq with rfl | hq
    · exact hk.2
    · simp <;> omega
  · rw [List.getElem?_append_right hi] at hy
    have hi0 : i - ks.length = 0 := by
      rcases Nat.eq_zero_or_pos (i - ks.length) with h0 | h0
      · exact h0
      · rw [List.getElem?_eq_none (by simp <;> omega)] at hy; cases hy
    rw [hi0] at hy
    obtain rfl : x = y := by simpa using hy
    refine ⟨b, by rw [List.getElem?_append_right (by rw [h.len]; exact hi), h.len, hi0]; rfl, PRA.to (fun k hk hs => ⟨hoth.2 k hs (by simp <;> omega), by omega, ?_⟩) hx⟩
    rcases hq with rfl | hq
    · simp <;> omega
    · simp <;> omega
/-- what stands in the loop of a row -/
def RowI (v : Ev) (g pp l : Nat) (w0 wr : World) (acc : List Nd) (i q cap : Nat) (bs : List Nat) : Prop := RowS wr l (some ⟨q, 0, none⟩) cap acc bs ∧ PB v wr g i pp ∧ w0.grownBy wr (some g) ∧ acc.length ≤ i ∧ w0.heap.size ≤ q
theorem PB.bel2 {v : Ev} {w w' : World} {g i pp l : Nat} (h : PB v w g i pp) (hb : Below (l + 1) w w') (hl : g ≤ l) : PB v w' g i pp := by
  obtain ⟨ao, cap, h⟩ := h
  have key : ∀ (b j : Nat) (u : Value), b < l + 1 → w.cell? ⟨b, j, none⟩ = some u → w'.cell? ⟨b, j, none⟩ = some u := fun b j u hl e => by rw [hb.cell (p := ⟨b, j, none⟩) hl]; exact e
  refine ⟨ao, cap, key _ _ _ (by omega) h.c0, key _ _ _ (by omega) h.c1, key _ _ _ (by omega) h.c2, key _ _ _ (by omega) h.c3, fun j => (hb.frozen (p := ⟨g, j, none⟩) (show g < l + 1 by omega)).trans (h.fz j), ?_, h.il, h.pl, ?_⟩
  · rcases h.tk with e | ⟨tb, e, hl2, hc⟩
    · exact .inl e
    · exact .inr ⟨tb, e, hl2, fun j u hu => key _ _ _ (by omega) (hc j u hu)⟩
  · obtain ⟨w0, h1, h2, h3, h4⟩ := h.tb
    exact ⟨w0, h1, Nat.le_trans h2 hb.size, h3, h4.trans (hb.mono (by omega))⟩
theorem gb_app {w w4 w5 : World} {g q B : Nat} (h : w.grownBy w4 (some g)) (hb : Below B w4 w5) (ho : Oth w4 w5 (some ⟨q, 0, none⟩)) (hq : w.heap.size ≤ q) : w.grownBy w5 (some g) :=
  ⟨hb.os.trans h.os, hb.tape.trans h.tape, hb.output.trans h.output, Nat.le_trans h.size hb.size, fun k hk hne => (ho.2 k (Nat.lt_of_lt_of_le hk h.size) (by simp <;> omega)).trans (h.block k hk hne)⟩
set_option maxRecDepth 100000 in
set_option maxHeartbeats 8000000 in
theorem syRow {v : Ev} {g m F : Nat} (hF : ∀ (args : Array Value) (w : World), (callFunc F args).run Tryz.prog w = .ok (.enter F args) w) {IT : Nat → Nat → Rs Nd} (hA : Hid (EvA v)) (hit : Hid (∀ i, v.L.length - i < m → Cn v g F IT i)) (hiv : Hid (∀ pp i, i ≤ v.L.length → (IT pp i).all (P1 v 0 i) (Qe v))) (S T : ByteArray) {i : Nat} (hn : v.L.length - i < m)
    (w : World) (pp l : Nat) (hgl : g ≤ l) (hlw : l < w.heap.size) (h : PB v w g i pp) :
    Calls Tryz.prog 61 #[ptr g, .func (.func F) #[ptr g] #[], .string S, .string T] w (Out v g pp w (rowF v (IT pp) S T i) (VL l)) := by
  have hlen := hA.out.k.len
  have HLE := Lib.hid hlen
  have HL : Hid (g ≤ l ∧ l < w.heap.size) := Lib.hid ⟨hgl, hlw⟩
  have HN := Lib.hid hn
  have hc := hit.out i hn w pp l hgl hlw h
  have hi := hiv.out pp i h.il
  obtain ⟨R1, hR1⟩ : ∃ R, IT pp i = R := ⟨_, rfl⟩
  rw [hR1] at hc hi
  have HC := Lib.hid hc; have HI := Lib.hid hi; have HR1 := Lib.hid hR1
  obtain ⟨R, hR⟩ : ∃ R, rowF v (IT pp) S T i = R := ⟨_, rfl⟩
  rw [hR]
  have hR' := hR
  unfold rowF at hR'
  rw [hR1] at hR'
  have HR := Lib.hid hR'
  clear hc hi hR1 hR hR' h hgl hlw hn hlen
  go_enter Tryz.func61, Tryz.ntmps61
  go_wp2_with fail
  refine HC.out.mono ?_
  intro e w1 ho
  clear HC
  rcases out_cases ho with ⟨x, j, u, rfl, rfl, hv, hp, hb⟩ | ⟨a, er, rfl, rfl, hb⟩
  · obtain ⟨b, rfl, hx⟩ := hv
    have hpi : P1 v 0 i x j := HI.out
    have HRI : Hid (RowI v g pp l w (w1.alloc (.cells #[ptr b] 44)) [x] j w1.heap.size 1 [b]) := Lib.hid ⟨RowS.one (Nat.lt_of_lt_of_le HL.out.2 hb.size) hx, hp.below ((Below.refl _ _).alloc (Nat.le_refl _) _), gb_trans hb (gbOfB ((Below.refl _ _).alloc (Nat.le_refl _) _)), by have := hpi.1; simp; omega, hb.size⟩
    have HRL : Hid (rowL v (IT pp) S T (v.L.length + 1) [x] j = R) := Lib.hid HR.out
    have HJ : Hid (i < j) := Lib.hid hpi.1
    clear ho hp hb hx hpi HI HR HR1
    go_wp2_with fail
    go_loopg [9] (v.L.length + 1) (fun gk s9 wr => ∃ (acc : List Nd) (bs : List Nat) (k q cap : Nat), v.L.length < k + gk ∧ s9 = .slice (some ⟨q, 0, none⟩) acc.length cap ∧ Hid (RowI v g pp l w wr acc k q cap bs) ∧ Hid (rowL v (IT pp) S T gk acc k = R) ∧ Hid (i < k))
    case atStart => exact ⟨[x], [b], j, _, 1, by omega, rfl, HRI, HRL, HJ⟩
    case round =>
      obtain ⟨acc, bs, k, q, cap, hk, rfl, HRI, HRL, HJ⟩ := hrel
      obtain ⟨hrow, hpb, hgb, hal, hq0⟩ := HRI.out
      have hkl := hpb.il
      have hlen := HLE.out
      obtain ⟨f, rfl⟩ : ∃ f, gk = f + 1 := ⟨gk - 1, by omega⟩
      have hrl := HRL.out
      rw [rowL] at hrl
      have HRL2 := Lib.hid hrl
      have HROW := Lib.hid hrow; have HPB := Lib.hid hpb; have HGB := Lib.hid hgb; have HQ0 := Lib.hid hq0
      have HAL : Hid (acc.length ≤ k ∧ k ≤ v.L.length ∧ v.L.length < k + (f + 1)) := Lib.hid ⟨hal, hkl, hk⟩
      clear hrow hpb hgb hrl HRI HRL hq0 hal hkl hk hlen
      cases hS : isS v k T with
      | true =>
        have HS := Lib.hid hS
        clear hS
        go_wp2_with fail
        refine (sySkipYes hA.out.k HPB.out HS.out).mono ?_
        rintro e w2 ⟨rfl, hp, hb⟩
        have HF : Hid (Out v g pp w R (VL l) (.returned (.slice (some ⟨q, 0, none⟩) acc.length cap)) w2) := Lib.hid (by
          have := HRL2.out
          rw [if_pos HS.out] at this
          rw [← this]
          exact ⟨_, rfl, ⟨_, cap, bs, rfl, HROW.out.keep hb HL.out.1, by have := HAL.out; have := HLE.out; omega⟩, hp, gb_trans HGB.out hb⟩)
        clear hp hb HRL2 HROW HPB HGB
        go_wp2
        go_ret
        exact HF.out
      | false =>
        have HS := Lib.hid hS
        have hrl := HRL2.out
        rw [if_neg (by rw [hS]; decide)] at hrl
        have HR3 := Lib.hid hrl
        clear hS hrl HRL2
        go_wp2_with fail
        refine (sySkipNo hA.out.k HPB.out HS.out).mono ?_
        rintro e w2 ⟨rfl, hp, hb⟩
        have HROW2 := Lib.hid (HROW.out.keep hb HL.out.1); have HPB2 := Lib.hid hp; have HGB2 := Lib.hid (gb_trans HGB.out hb)
        clear hp hb HROW HPB HGB HS
        go_wp2_with fail
        obtain ⟨R2, hR2⟩ : ∃ R, ned v S k = R := ⟨_, rfl⟩
        have hi2 := ned_iv hA.out.q HPB2.out.il (s := S)
        have hr3 := HR3.out
        rw [hR2] at hi2 hr3
        have hc2 := syNeed hA.out.k HPB2.out S
        rw [hR2] at hc2
        have HC2 := Lib.hid hc2; have HI2 := Lib.hid hi2; have HR4 := Lib.hid hr3
        clear hc2 hi2 hr3 hR2 HR3
        refine HC2.out.mono ?_
        intro e w3 ho
        clear HC2
        rcases out_cases ho with ⟨x2, j2, u, rfl, rfl, hv, hp, hb⟩ | ⟨a, er, rfl, rfl, hb⟩
        · obtain rfl := hv
          have ht1 : T1 v k x2 j2 := HI2.out
          have HROW3 := Lib.hid (HROW2.out.keep hb HL.out.1); have HPB3 := Lib.hid hp; have HGB3 := Lib.hid (gb_trans HGB2.out hb)
          have HJ2 : Hid (j2 = k + 1) := Lib.hid ht1.1
          have hn3 : v.L.length - j2 < m := by have := HN.out; have := HJ.out; have := ht1.1; omega
          have hc3 := hit.out j2 hn3 w3 pp (w3.heap.size - 1) (by have := hp.lt; omega) (by have := hp.lt; omega) hp
          have hi3 := hiv.out pp j2 hp.il
          obtain ⟨R3, hR3⟩ : ∃ R, IT pp j2 = R := ⟨_, rfl⟩
          have hr4 : ((IT pp j2).bind fun x k => rowL v (IT pp) S T f (acc ++ [x]) k) = R := HR4.out
          rw [hR3] at hc3 hi3 hr4
          have HC3 := Lib.hid hc3; have HI3 := Lib.hid hi3; have HR5 := Lib.hid hr4
          clear ho hp hb HROW2 HPB2 HGB2 ht1 hc3 hi3 hR3 hr4 HR4 HI2 hn3
          go_wp2_with fail
          refine HC3.out.mono ?_
          intro e w4 ho
          clear HC3
          rcases out_cases ho with ⟨x3, j3, u, rfl, rfl, hv, hp, hb⟩ | ⟨a, er, rfl, rfl, hb⟩
          · obtain ⟨b3, rfl, hx3⟩ := hv
            have ht3 : P1 v 0 j2 x3 j3 := HI3.out
            have HROW4 := Lib.hid (HROW3.out.keep hb HL.out.1); have HPB4 := Lib.hid hp; have HGB4 := Lib.hid (gb_trans HGB3.out hb)
            have HX3 := Lib.hid hx3
            have HJ3 : Hid (j2 < j3 ∧ j3 ≤ v.L.length) := Lib.hid ⟨ht3.1, ht3.2.1⟩
            have HR6 : Hid (rowL v (IT pp) S T f (acc ++ [x3]) j3 = R) := Lib.hid HR5.out
            have HQ : Hid (q ≤ w3.heap.size - 1 ∧ l ≤ w3.heap.size - 1 ∧ l < w4.heap.size) := Lib.hid ⟨by
              have hc : acc ≠ [] ∨ acc = [] := by cases acc <;> simp
              have := HROW3.out.own.low q rfl
              omega, by have := Nat.lt_of_lt_of_le HL.out.2 HGB3.out.size; omega, Nat.lt_of_lt_of_le HL.out.2 HGB4.out.size⟩
            clear ho hp hb hx3 ht3 HROW3 HPB3 HGB3 HI3 HR5
            go_wp2_with (at_builtin; refine wp_rowP _ rfl _ _ rfl (l + 1) q cap acc.length (bs.map ptr) b3 _ rfl rfl HROW4.out.own (by have := HAL.out; have := HLE.out; omega) HQ.out.2.2 ?_; intro q5 cap5 w5 e1 e2 e3 e4)
            have HROW5 := Lib.hid (HROW4.out.more e1 e3 e4 HX3.out HQ.out.1 HQ.out.2.1)
            have HPB5 : Hid (PB v w5 g j3 pp) := Lib.hid (HPB4.out.bel2 e2 HL.out.1)
            have HGB5 : Hid (w.grownBy w5 (some g)) := Lib.hid (gb_app HGB4.out e2 e3 HQ0.out)
            have HQ5 : Hid (w.heap.size ≤ q5) := Lib.hid (by rcases e4 with rfl | h
                                                             · exact HQ0.out
                                                             · exact Nat.le_trans HGB4.out.size h)
            clear e1 e2 e3 e4 HROW4 HPB4 HGB4 HX3
            go_wp2
            go_roundg f
            case measure => omega
            case rel => exact ⟨acc ++ [x3], bs ++ [b3], j3, q5, cap5, by have := HAL.out; have := HJ2.out; have := HJ3.out; omega, by rw [List.length_append]; rfl, Lib.hid ⟨HROW5.out, HPB5.out, HGB5.out, by have := HAL.out; have := HJ2.out; have := HJ3.out; rw [List.length_append]; simp; omega, HQ5.out⟩, HR6, Lib.hid (by have := HJ.out; have := HJ2.out; have := HJ3.out; omega)⟩
          · have HG := Lib.hid (gb_trans HGB3.out hb)
            have HE : Hid (R = Rs.err a er) := Lib.hid HR5.out.symm
            clear ho hb HI3 HR5 HROW3 HPB3 HGB3
            go_wp2
            refine ⟨rfl, ?_⟩
            rw [HE.out]
            exact ⟨rfl, HG.out⟩
        · have HG := Lib.hid (gb_trans HGB2.out hb)
          have HE : Hid (R = Rs.err a er) := Lib.hid HR4.out.symm
          clear ho hb HI2 HR4 HROW2 HPB2 HGB2
          go_wp2
          refine ⟨rfl, ?_⟩
          rw [HE.out]
          exact ⟨rfl, HG.out⟩
  · have HG := Lib.hid hb
    have HE : Hid (R = Rs.err a er) := Lib.hid HR.out.symm
    clear ho hb HI HR HR1
    go_wp2
    refine ⟨rfl, ?_⟩
    rw [HE.out]
    exact ⟨rfl, HG.out⟩
end Go.Proofs.YtpgiljibicigeaaGreatDoor

/- syntax: one more behind a row that may be none; texts walked. -/
namespace Go.Proofs.YtpgiljibicigeaaGreatDoor
open Go.RowKit SX

theorem wp_rowS {ops : Array Oper} {rest : List Oper} {o : Oper} {a : Act} {Q : Exit → Act → World → Prop} (w0 : World) (hg : o.guard = none) (s x : Operand)
    (hop : o.op = Op.call { callee := Callee.builtin Builtin.append, args := #[s, x], argTypes := #[47, 47] })
    {l m b cap : Nat} {ao : Option Addr} {ks : List Nd} {bs : List Nat} {y : Nd} (e' : TypeId) (hs : a.eval s = .slice ao ks.length cap)
    (hx : a.eval x = .slice (some ⟨w0.heap.size, 0, none⟩) 1 1)
    (hrow : RowS w0 l ao cap ks bs) (hy : PR w0 m y b) (hm : ∀ q, ao = some ⟨q, 0, none⟩ → q ≤ m) (hlm : l ≤ m) (hn : ks.length ≤ 1000000) (hB : l < w0.heap.size)
    (hK : ∀ ao' cap' w', RowS w' l ao' cap' (ks ++ [y]) (bs ++ [b]) → Below (l + 1) w0 w' → Oth w0 w' ao → (∀ q, ao' = some ⟨q, 0, none⟩ → ao = some ⟨q, 0, none⟩ ∨ w0.heap.size ≤ q) → wpList Tryz.prog ops Q rest (a.put o.dst (.slice ao' (ks.length + 1) cap')) w') :
    wpList Tryz.prog ops Q (o :: rest) a (w0.alloc (.cells #[ptr b] e')) := by
  rcases hrow.own.shape with ⟨h1, h2, h3, _⟩ | ⟨q, cur, h1, _, _⟩
  · have hk0 : ks = [] := List.length_eq_zero_iff.1 (by omega)
    subst hk0
    have hbs : bs = [] := List.length_eq_zero_iff.1 hrow.len
    subst hbs
    have hc0 : cap = 0 := by
      rcases hrow.own.2 with ⟨h, _⟩ | ⟨g, c, cur, h, _⟩
      · cases h; rfl
      · rw [h1] at h; cases h
    subst h1 hc0
    refine wp_row w0 hg s x 47 hop w0.heap.size 44 (.pointer none) 1 8 Tryz.underlying47 infoPt rfl (by decide) none 0 0 [] hs #[ptr b] rfl (by intro u hu; simp at hu; subst hu; rfl) e' hx (OwnV.nil _ _ _ _) (by decide) (by unfold maxLen; decide) (Nat.le_refl _) ?_
    intro ao' cap' w' ho hb hoth
    have hsh : ∃ q, ao' = some ⟨q, 0, none⟩ ∧ w0.heap.size ≤ q := by
      rcases ho.shape with ⟨h1, h2, _⟩ | ⟨q, cur, h1, h2, _⟩
      · omega
      · exact ⟨q, h1, h2⟩
    obtain ⟨q, rfl, hq⟩ := hsh
    refine hK (some ⟨q, 0, none⟩) cap' w' ⟨ho.mono (by omega), rfl, fun i z hz => ?_⟩ (hb.mono (by omega)) hoth (fun q2 h => by injection h with h; injection h with h; right; omega)
    match i, hz with
    | 0, hz =>
      obtain rfl : y = z := by simpa using hz
      exact ⟨b, rfl, PRA.to (fun k hk hs => ⟨hoth.2 k hs (by simp), by omega, by simp <;> omega⟩) hy⟩
    | i + 1, hz => simp at hz
  · subst h1
    refine wp_rowP w0 hg s x hop (l + 1) q cap ks.length (bs.map ptr) b e' hs hx hrow.own hn (by omega) ?_
    intro q' cap' w' h1 h2 h3 h4
    exact hK _ cap' w' (hrow.more h1 h3 h4 hy (hm q rfl) hlm) h2 h3 (fun q2 h => by
      injection h with h; injection h with h
      rcases h4 with h4 | h4
      · left; rw [← h, h4]
      · right; omega)
theorem RowS.prs {w : World} {l cap : Nat} {ao : Option Addr} {ks : List Nd} {bs : List Nat} (h : RowS w l ao cap ks bs) : PRs w (fun k => l < k) ks ao 0 := by
  rcases h.own.shape with ⟨h1, h2, _⟩ | ⟨q, cur, h1, h2, _⟩
  · have : ks = [] := List.length_eq_zero_iff.1 (by omega)
    subst this; unfold PRs; trivial
  · subst h1
    refine prs_mk (show l < q by omega) ks 0 fun i x hx => ?_
    obtain ⟨b, hb, hp⟩ := h.it i x hx
    refine ⟨b, ?_, hp.to (fun k hk _ => ⟨rfl, hk.1⟩)⟩
    rw [Nat.zero_add]
    exact h.own.cellAt (by rw [List.getElem?_map, hb]; rfl)
theorem RowS.none (w : World) (l : Nat) : RowS w l Option.none 0 [] [] := ⟨OwnV.nil _ _ _ _, rfl, fun i x hx => by simp at hx⟩
/-- a function with a body is entered -/
theorem cf_of {F : Nat} {fn : Func} (hf : Tryz.prog.funcs[F]? = some fn) (hn : (fn.name == "runtime.NumGoroutine") = false) (hb : fn.body.isNone = false) (args : Array Value) (w : World) : (callFunc F args).run Tryz.prog w = .ok (.enter F args) w := by
  have h1 : fn.name ≠ "runtime.NumGoroutine" := by simpa using hn
  have h2 : fn.body ≠ none := by intro h; rw [h] at hb; cases hb
  simp [callFunc, go_sem, hf, h1, h2]
/-- what stands in the loop of a text -/
def TxI (v : Ev) (g pp l : Nat) (w0 wr : World) (acc : List Nd) (i : Nat) (ao : Option Addr) (cap : Nat) (bs : List Nat) : Prop := RowS wr l ao cap acc bs ∧ PB v wr g i pp ∧ w0.grownBy wr (some g) ∧ acc.length ≤ i ∧ ∀ q, ao = some ⟨q, 0, none⟩ → w0.heap.size ≤ q
theorem gb_appO {w w4 w5 : World} {g B : Nat} {ao : Option Addr} (h : w.grownBy w4 (some g)) (hb : Below B w4 w5) (ho : Oth w4 w5 ao) (hq : ∀ q, ao = some ⟨q, 0, Option.none⟩ → w.heap.size ≤ q) : w.grownBy w5 (some g) :=
  ⟨hb.os.trans h.os, hb.tape.trans h.tape, hb.output.trans h.output, Nat.le_trans h.size hb.size, fun k hk hne => (ho.2 k (Nat.lt_of_lt_of_le hk h.size) (fun e => by have := hq k e; omega)).trans (h.block k hk hne)⟩
end Go.Proofs.YtpgiljibicigeaaGreatDoor
