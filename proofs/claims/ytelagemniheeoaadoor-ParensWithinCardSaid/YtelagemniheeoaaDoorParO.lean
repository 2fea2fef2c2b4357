/- parens: the words copied, the ranks made. -/
import Derived.Test.YtelagemniheeoaaDoorParN
import Derived.Laws.AppendOwnNone
import Derived.Lib.SliceRun
namespace Go.Proofs.YtelagemniheeoaaDoor
open Go.RowKit BM

theorem infoU64P : (Tryd.prog.info? 27).map (fun i => (i.zero, i.size, i.bytes)) = some (some (.int .u64 0), 1, 8) := by kernel_rfl
/-- 'append(l, m...)', l the call's own and empty, m a row that reads as xs -/
theorem wp_copyP {P : Program} {ops : Array Oper} {rest : List Oper} {o : Oper} {a : Act} {Q : Exit → Act → World → Prop} (w : World) (hg : o.guard = none) (s x : Operand) (t : TypeId)
    (hop : o.op = Op.call { callee := Callee.builtin Builtin.append, args := #[s, x], argTypes := #[t, t] })
    (B : Nat) (e : TypeId) (z : Value) (bytes : Nat) (hu : P.underlying t = some (.slice e)) (hinfo : (P.info? e).map (fun i => (i.zero, i.size, i.bytes)) = some (some z, 1, bytes)) (hz1 : z.cells.size = 1)
    (ao am : Option Addr) (cap cm q : Nat) (xs : List Value) (hq : q = xs.length) (hs : a.eval s = .slice ao 0 cap) (hx : a.eval x = .slice am q cm)
    (hown : OwnV w B e 1 ao 0 cap []) (hm : RdV w am xs) (hm1 : ∀ u ∈ xs, u.oneCell' = true) (hm0 : am = none → xs = [] ∧ cm = 0) (hbytes : xs.length * bytes ≤ 140737488355328) (hlen : xs.length ≤ maxLen) (hB : B ≤ w.heap.size)
    (hK : ∀ ao' cap' w', OwnV w' B e 1 ao' q cap' xs → Below B w w' → wpList P ops Q rest (a.put o.dst (.slice ao' q cap')) w') :
    wpList P ops Q (o :: rest) a w := by
  subst hq
  obtain ⟨i, hi, hz0, hz1', hz2⟩ := info_parts hinfo
  have hown' : w.ownsRow B e 1 (.slice ao 0 cap) 0 [] := hown
  cases am with
  | none =>
    obtain ⟨rfl, rfl⟩ := hm0 rfl
    refine wpList_append_own_none hg s x t hop B e i 1 hu hi _ _ _ hs hown' (by simpa using hx) ?_
    have := hK ao cap w (by simpa using hown) (Below.refl _ _)
    simpa using this
  | some ad =>
    have hnews : ∀ j u, xs[j]? = some u → w.cell? (ad.add j) = some u := by
      intro j u hj
      obtain ⟨b, off, e1, hc⟩ := hm j u hj
      simp only [Option.some.injEq] at e1
      subst e1
      rw [addP]; exact hc
    refine wpList_append_own _ hg s x t hop B e i z 1 bytes hu hi hz0 hz1' hz2 hz1 (by decide) _ _ _ hs hown' ad xs.length cm xs hx (by rw [Nat.mul_one]) hnews hm1 (by omega) (by rw [Nat.zero_add]; exact hbytes) hB ?_
    intro v' w' ho hgr hnil
    have hb : Below B w w' := (Below.refl B w).grown hgr hB (fun j hj => (hown'.lt j hj).1)
    rw [Nat.zero_add, List.nil_append] at ho
    have hsh : ∃ ao' cap', v' = .slice ao' xs.length cap' := by
      rcases ho.2 with ⟨h1, h2⟩ | ⟨g, cap', cur, h1, _⟩
      · rw [h2]; exact ⟨_, _, h1⟩
      · exact ⟨_, _, h1⟩
    obtain ⟨ao', cap', rfl⟩ := hsh
    exact hK ao' cap' w' ho hb
theorem eq_nil (w : World) (a : Option Addr) (n c : Nat) : (binOp .eql 22 (.slice a n c) (.slice none 0 0)).run Tryd.prog w = .ok (.bool a.isNone) w := Lib.run_eql_slice_nil w _ _ a n c 0 0 Tryd.underlying22
theorem wv8_one (l : List (BitVec 64)) : ∀ u ∈ wv8 l, u.oneCell' = true := by
  intro u hu; obtain ⟨_, _, rfl⟩ := List.mem_map.1 hu; rfl
def ResV (e : TypeId) (xs : List Value) (w : World) (r : Ending) (w' : World) : Prop := ∃ a c, r = .returned (.slice a xs.length c) ∧ OwnV w' w.heap.size e 1 a xs.length c xs ∧ Below w.heap.size w w'
theorem Clone_any (a : Option Addr) (c : Nat) (ws : List (BitVec 64)) (w : World) (hr : RdV w a (wv8 ws)) (h0 : a = none → ws = [] ∧ c = 0) (hl : ws.length ≤ 17592186044416) :
    Calls Tryd.prog 33 #[.slice a ws.length c] w (ResV 27 (wv8 ws) w) := by
  have hwl : (wv8 ws).length = ws.length := by simp [wv8]
  cases a with
  | none =>
    obtain ⟨rfl, rfl⟩ := h0 rfl
    have hq := fun w => eq_nil w none 0 0
    go_enter Tryd.func33, Tryd.ntmps33
    go_wp2
    go_ret
    exact ⟨none, 0, rfl, OwnV.nil _ _ _ _, Below.refl _ _⟩
  | some ad =>
    have o0 : OwnV (w.alloc (.cells #[] 27)) w.heap.size 27 1 (some ⟨w.heap.size, 0, none⟩) 0 0 [] := World.ownsRow_lit (base := w.heap.size) w #[] 0 (Nat.le_refl _) (by decide) rfl
    have b0 := (Below.refl w.heap.size w).alloc (Nat.le_refl _) (.cells #[] 27)
    have HR := Lib.hid (hr.below b0)
    have HO := Lib.hid o0; have HB := Lib.hid b0
    have HWL := Lib.hid hwl
    clear hr h0 o0 b0 hwl
    have hq := fun w => eq_nil w (some ad) ws.length c
    go_enter Tryd.func33, Tryd.ntmps33
    go_wp2_with (refine wp_copyP (w.alloc (.cells #[] 27)) rfl _ _ 22 rfl w.heap.size 27 _ 8 Tryd.underlying22 infoU64P rfl _ (some ad) 0 c ws.length (wv8 ws) HWL.out.symm rfl rfl HO.out HR.out (wv8_one ws) (fun h => by cases h) (by rw [HWL.out]; omega) (by rw [HWL.out]; unfold maxLen; omega) (by simp) ?_; intro ao' cap' w' h1 h2; have H1 := Lib.hid h1; have H2 := Lib.hid h2; clear h1 h2)
    go_ret
    exact ⟨ao', cap', by rw [HWL.out]; rfl, by rw [HWL.out]; exact H1.out, HB.out.trans H2.out⟩
def rkl (f : Nat → Bool) (C : Nat) : List Nat := (List.range C).map (fun k => rk f (64 * k))
set_option maxHeartbeats 4000000 in
theorem ranksOf_any (a : Option Addr) (c : Nat) (ws : List (BitVec 64)) (C : Nat) (w : World) (hr : RdV w a (wv8 ws)) (hC : C ≤ ws.length + 1) (hC1 : 1 ≤ C) (hCb : C ≤ 17592186044417) :
    Calls Tryd.prog 34 #[.slice a ws.length c, .int .i64 C] w (ResV 3 (nv8 (rkl (wb ws) C)) w) := by
  have HRW := Lib.hid (fun W (hb : Below w.heap.size w W) => hr.below hb)
  obtain ⟨Z, hZ⟩ : ∃ Z, madeCells #[Value.int .i64 0] C = Z := ⟨_, rfl⟩
  have hmk := fun w => run_make_row' (P := Tryd.prog) 40 3 (.int .i64 0) 8 Tryd.underlying40 infoI rfl .i64 .i64 C (by omega) (by omega) w
  rw [hZ] at hmk
  have o0 := own_made w Z C hZ hCb
  have b0 := (Below.refl w.heap.size w).alloc (Nat.le_refl _) (.cells Z 3)
  rw [show List.replicate C (Value.int .i64 0) = nv8 (List.replicate C 0) by unfold nv8; rw [List.map_replicate]; rfl] at o0
  clear hr hZ
  go_enter Tryd.func34, Tryd.ntmps34
  go_wp2_with fail
  generalize w.alloc (.cells Z 3) = w1 at *
  have O0 := Lib.hid o0; have B0 := Lib.hid b0
  clear o0 b0 hmk
  have K0 : Hid (∀ j, j < 1 → (List.replicate C 0)[j]? = some (rk (wb ws) (64 * j))) := Lib.hid (fun j hj => by
    obtain rfl : j = 0 := by omega
    rw [List.getElem?_replicate, if_pos (by omega)]; rfl)
  go_loopw [6] (fun s6 wr => ∃ (k : Nat) (l : List Nat), 1 ≤ k ∧ k ≤ C ∧ s6 = .int .i64 k ∧ Hid (l.length = C) ∧ Hid (OwnV wr w.heap.size 3 1 (some ⟨w.heap.size, 0, none⟩) C C (nv8 l)) ∧ Hid (∀ j, j < k → l[j]? = some (rk (wb ws) (64 * j))) ∧ Hid (Below w.heap.size w wr)) (fun s6 _ => C - (intOf s6).toNat)
  case atStart => exact ⟨1, _, by omega, by omega, rfl, Lib.hid (by simp), O0, K0, B0⟩
  case round =>
    obtain ⟨k, l, hk1, hk2, rfl, HL, HO, HK, HB⟩ := hrel
    by_cases hlt : k < C
    · obtain ⟨m, hmk⟩ : ∃ m, k = m + 1 := ⟨k - 1, by omega⟩
      have HMK := Lib.hid hmk
      have hwl : m < ws.length := by omega
      have hmC : m < C := by omega
      obtain ⟨x, hx⟩ : ∃ x, ws[m]? = some x := ⟨_, List.getElem?_eq_getElem hwl⟩
      obtain ⟨xb, xo, hxa, hxc⟩ := HRW.out wr HB.out _ _ (wv8_get hx)
      have hkm := HK.out m (by omega)
      have c0 := HO.out.cellAt (nv8_get hkm)
      obtain ⟨l1, hl1⟩ := cn_get HL.out hlt
      have c1 := HO.out.cellAt (nv8_get hl1)
      have f1 := HO.out.frozen k
      have hrb := rk_le (wb ws) (64 * m)
      have hpb := pc_le x 64
      have hrk : rk (wb ws) (64 * k) = rk (wb ws) (64 * m) + pc x 64 := by rw [hmk]; exact rk_word hx 64 (Nat.le_refl _)
      have HRK := Lib.hid hrk
      have HP := Lib.hid (fun w => pop_any x w)
      obtain ⟨r, hre⟩ : ∃ r, rk (wb ws) (64 * m) = r := ⟨_, rfl⟩
      obtain ⟨p, hpe⟩ : ∃ p, pc x 64 = p := ⟨_, rfl⟩
      rw [hre] at c0 hrb HRK
      rw [hpe] at hpb HP HRK
      have s0 : IntKind.i64.wrap ((k : Int) - 1) = m := by rw [show (k : Int) - 1 = m by omega]; exact IntWalk.i64_in _ (by omega)
      have hnkm : ¬ k = m := by omega
      clear hrk hre hpe hkm hl1 hx hmk
      subst hxa
      have s1 : IntKind.i64.wrap ((r : Int) + p) = (r : Int) + p := IntWalk.i64_in _ (by omega)
      go_upto_region 5 with (fail)
      go_region_law (go_simp; go_at_call 39; refine (HP.out _).mono ?_; rintro e w' ⟨rfl, rfl⟩)
      all_goals
        have H7 := HO.out.set k (.int .i64 ((r : Int) + p))
        rw [show (r : Int) + (p : Int) = ((r + p : Nat) : Int) by omega, ← nv8_set] at H7
        have HO7 : Hid (OwnV ((wr.setCell ⟨w.heap.size, k, none⟩ (.int .i64 ((r : Int) + p))).drew) w.heap.size 3 1 (some ⟨w.heap.size, 0, none⟩) C C (nv8 (l.set k (r + p)))) := Lib.hid (by rw [show (r : Int) + (p : Int) = ((r + p : Nat) : Int) by omega]; exact H7)
        have HL7 : Hid ((l.set k (r + p)).length = C) := Lib.hid (by rw [List.length_set]; exact HL.out)
        have HK7 : Hid (∀ j, j < k + 1 → (l.set k (r + p))[j]? = some (rk (wb ws) (64 * j))) := Lib.hid (fun j hj => by
          by_cases hjk : k = j
          · subst hjk
            rw [List.getElem?_set_self (by rw [HL.out]; omega), HRK.out]
          · rw [List.getElem?_set_ne hjk]; exact HK.out j (by omega))
        have HB7 : Hid (Below w.heap.size w ((wr.setCell ⟨w.heap.size, k, none⟩ (.int .i64 ((r : Int) + p))).drew)) := Lib.hid ((HB.out.setCell (Nat.le_refl _) _).drew)
        generalize (wr.setCell ⟨w.heap.size, k, none⟩ (.int .i64 ((r : Int) + p))).drew = w7 at *
        clear H7 c0 c1 f1 hxc s0 s1
        go_wp2
        go_roundw
        case rel => exact ⟨k + 1, _, by omega, by omega, by go_num, HL7, HO7, HK7, HB7⟩
        case measure => simp [intOf]; omega
    · obtain rfl : k = C := by omega
      have he : l = rkl (wb ws) k := by
        apply List.ext_getElem?
        intro j
        unfold rkl
        by_cases hj : j < k
        · rw [HK.out j hj, List.getElem?_map, List.getElem?_range hj]; rfl
        · rw [List.getElem?_eq_none (by rw [HL.out]; omega), List.getElem?_eq_none (by simp; omega)]
      have HE := Lib.hid he
      clear he
      go_wp2
      go_ret
      have h1 := HO.out
      rw [HE.out] at h1
      have hlen : (nv8 (rkl (wb ws) k)).length = k := by simp [nv8, rkl]
      exact ⟨some ⟨w.heap.size, 0, none⟩, k, by rw [hlen]; rfl, by rw [hlen]; exact h1, HB.out⟩
end Go.Proofs.YtelagemniheeoaaDoor
