/- The document's All, Clean, Same, within. -/
import Derived.Test.YtmkmaignfcjjkaaDoorUtfR3
namespace Go.Proofs.YtmkmaignfcjjkaaDoor
open Go.RowKit UM

section
variable {P : Program} {ops : Array Oper} {rest : List Oper} {o : Oper} {a : Act} {Q : Exit → Act → World → Prop}
/-- 'append(l, text...)', l the call's own -/
theorem wp_pushStr (w : World) (hg : o.guard = none) (s x : Operand) (t u : TypeId)
    (hop : o.op = Op.call { callee := Callee.builtin Builtin.append, args := #[s, x], argTypes := #[t, u] })
    (B : Nat) (e : TypeId) (ht : P.underlying t = some (.slice e)) (hu : P.underlying u = some .string) (hinfo : (P.info? e).map (fun i => (i.zero, i.size, i.bytes)) = some (some (.int .u8 0), 1, 1))
    (ao : Option Addr) (cap n : Nat) (l m : List Nat) (hn : n = l.length) (hs : a.eval s = .slice ao n cap) (hx : a.eval x = .string (tx m)) (hm : ∀ x ∈ m, x < 256)
    (hown : Own w B e .u8 ao cap l) (hlen : l.length + m.length ≤ 140737488355328) (hlen2 : l.length + m.length ≤ maxLen) (hB : B ≤ w.heap.size)
    (hK : ∀ ao' cap' n' w', Hid (n' = (l ++ m).length) → Own w' B e .u8 ao' cap' (l ++ m) → Below B w w' → wpList P ops Q rest (a.put o.dst (.slice ao' n' cap')) w') :
    wpList P ops Q (o :: rest) a w := by
  subst hn
  obtain ⟨i, hi, hz0, hz1, hz2⟩ := info_parts hinfo
  have hown' : w.ownsRow B e 1 (.slice ao l.length cap) l.length (cs .u8 l) := hown
  refine Lib.wpList_append_own_string (w := w) hg s x t u hop B e i ht hu hi hz0 hz1 hz2 _ _ _ hs hown' (tx m) hx (by rw [tx_size]; exact hlen2) (by rw [tx_size]; exact hlen) hB ?_
  intro v' w' ho hgr hnil
  have hb : Below B w w' := (Below.refl B w).grown hgr hB (fun j hj => (hown'.lt j hj).1)
  rw [tx_size, strCells_tx hm] at ho
  have hsh : ∃ ao' cap', v' = .slice ao' (l.length + m.length) cap' := by
    rcases ho.2 with ⟨h1, h2⟩ | ⟨g, cap', cur, h1, _⟩
    · exact ⟨none, 0, by rw [h1, h2]⟩
    · exact ⟨_, _, h1⟩
  obtain ⟨ao', cap', rfl⟩ := hsh
  refine hK ao' cap' _ w' (Lib.hid (by rw [List.length_append])) ?_ hb
  unfold Own
  rw [cs_append, List.length_append]; exact ho
end

theorem encL_take_succ {ps : List Nat} {k : Nat} (hk : k < ps.length) : encL (ps.take (k + 1)) = encL (ps.take k) ++ enc (ps[k]?.getD 0) := by
  rw [List.take_succ_eq_append_getElem hk, encL_append, encL_one, List.getElem?_eq_getElem hk, Option.getD_some]
theorem encL_take_len (ps : List Nat) (k : Nat) : (encL (ps.take k)).length ≤ 4 * ps.length := by
  have h1 := encL_len (ps.take k)
  have h2 : (ps.take k).length ≤ ps.length := by rw [List.length_take]; omega
  omega
set_option maxHeartbeats 8000000 in
theorem RAll_any (a0 : Option Addr) (c0 : Nat) (ps : List Nat) (w : World) (hl : ps.length ≤ 17592186044416) (hr : Rd w .i64 a0 ps) (hps : ∀ p ∈ ps, Pt p) : Calls Tryd.prog 36 #[.slice a0 ps.length c0] w (ResT (encL ps) w) := by
  have HR := Lib.hid hr
  have HPS := Lib.hid hps
  clear hr hps
  go_enter Tryd.func36, Tryd.ntmps36
  go_wp2
  go_loopw [3, 4] (fun v3 v4 wr => ∃ (k : Nat) (ao : Option Addr) (cap n : Nat), k ≤ ps.length ∧ v4 = .int .i64 k ∧ v3 = .slice ao n cap ∧ Hid (n = (encL (ps.take k)).length) ∧ Own wr w.heap.size 5 .u8 ao cap (encL (ps.take k)) ∧ Below w.heap.size w wr) (fun _ v4 _ => ps.length - (intOf v4).toNat)
  case atStart => exact ⟨0, none, 0, 0, Nat.zero_le _, rfl, rfl, Lib.hid rfl, Own.nilNone _ _ _ _, Below.refl _ _⟩
  case round =>
    obtain ⟨k, ao, cap, n, hk, rfl, rfl, hn, ho, hb⟩ := hrel
    by_cases hlt : k < ps.length
    · obtain ⟨bb, off, rfl, hcell⟩ := HR.out.below hb k hlt
      have hst := encL_take_succ hlt
      have hpt : Pt (ps[k]?.getD 0) := by
        rw [List.getElem?_eq_getElem hlt, Option.getD_some]
        exact HPS.out _ (List.getElem_mem hlt)
      obtain ⟨p, hp⟩ : ∃ p, p = ps[k]?.getD 0 := ⟨_, rfl⟩
      rw [← hp] at hst hpt hcell
      have hB := fun W => Bytes_any p W hpt.1
      have hlo := enc_lo hpt.1
      have h4 := encL_take_len ps k
      have h5 : (enc p).length ≤ 4 := by rw [enc_len]; exact (en_pos p).2
      have hq1 : (encL (ps.take k)).length + (enc p).length ≤ 140737488355328 := by omega
      have hq2 : (encL (ps.take k)).length + (enc p).length ≤ maxLen := by unfold maxLen; omega
      have HB := Lib.hid hB; have HST := Lib.hid hst; have HLO := Lib.hid hlo; have HO := Lib.hid ho; have HBB := Lib.hid hb; have H1 := Lib.hid hq1; have H2 := Lib.hid hq2
      clear hB hst hlo ho hb hq1 hq2 h4 h5 hp hpt
      go_wp2_with fail
      refine (HB.out _).mono ?_
      rintro r w2 ⟨rfl, hb2⟩
      have HO2 := Lib.hid (HO.out.below hb2)
      have HB2 := Lib.hid (HBB.out.trans (hb2.mono HBB.out.size))
      clear hb2 HB
      go_wp2_with (at_builtin; refine wp_pushStr _ rfl _ _ 53 9 rfl w.heap.size 5 Tryd.underlying53 Tryd.underlying9 infoU8 ao cap n (encL (ps.take k)) (enc p) hn.out rfl rfl HLO.out HO2.out H1.out H2.out HB2.out.size ?_)
      intro ao2 cap2 n2 w3 hn2 ho3 hb3
      have HO3 := Lib.hid ho3; have HB3 := Lib.hid (HB2.out.trans hb3)
      clear ho3 hb3
      go_wp2
      go_roundw
      case rel => exact ⟨k + 1, ao2, cap2, n2, by omega, by go_num, rfl, Lib.hid (by have h := hn2.out; rw [HST.out, List.length_append]; first | exact h | (rw [List.length_append] at h; exact h)), by rw [HST.out]; exact HO3.out, HB3.out⟩
      case measure => simp [intOf]; omega
    · obtain rfl : k = ps.length := by omega
      rw [List.take_length] at hn ho
      have hlo : ∀ x ∈ encL ps, x < 256 := encL_lo HPS.out
      have hcv := conv_tx (P := Tryd.prog) wr 53 9 5 _ cap ao (encL ps) n Tryd.underlying53 Tryd.underlying5 Tryd.underlying9 ho hlo hn.out
      have HB := Lib.hid hb
      clear ho hlo hb
      go_wp2
      go_ret
      exact ⟨rfl, HB.out⟩

theorem RClean_any (s : ByteArray) (w : World) (hs : s.size ≤ 17592186040000) : Calls Tryd.prog 22 #[.string s] w (ResT (encL (xp (bl s))) w) := by
  have hX := RExplode_any s w hs
  have hl := xp_le (bl s)
  rw [bl_len] at hl
  have hA := fun W a c h => RAll_any a c (xp (bl s)) W (by omega) h (xp_pts _)
  have HX := Lib.hid hX; have HA := Lib.hid hA
  clear hX hA hl
  go_enter Tryd.func22, Tryd.ntmps22
  go_wp2_with fail
  refine HX.out.mono ?_
  rintro r w1 ⟨a, c, rfl, ho, hb⟩
  have HR := Lib.hid ho.rd; have HB := Lib.hid hb
  clear ho hb HX
  go_wp2_with fail
  refine (HA.out _ _ _ HR.out).mono ?_
  rintro r w2 ⟨rfl, hb2⟩
  have HB2 := Lib.hid (HB.out.trans (hb2.mono HB.out.size))
  clear hb2
  go_wp2
  go_ret
  exact ⟨rfl, HB2.out⟩

theorem within_any (x : Int) (n : Nat) (w : World) : Calls Tryd.prog 38 #[.int .i64 x, .int .i64 n] w fun r w' => r = .returned (.int .i64 (min x.toNat n : Nat)) ∧ w = w' := by
  by_cases h1 : x < 0
  · rw [show min x.toNat n = 0 by omega]
    go_enter Tryd.func38, Tryd.ntmps38
    go_wp2
    go_ret
    exact ⟨rfl, rfl⟩
  · by_cases h2 : (n : Int) < x
    · rw [show min x.toNat n = n by omega]
      go_enter Tryd.func38, Tryd.ntmps38
      go_wp2
      go_ret
      exact ⟨rfl, rfl⟩
    · obtain ⟨k, rfl⟩ : ∃ k : Nat, x = k := ⟨x.toNat, by omega⟩
      rw [show min (k : Int).toNat n = k by omega]
      go_enter Tryd.func38, Tryd.ntmps38
      go_wp2
      go_ret
      exact ⟨rfl, rfl⟩
end Go.Proofs.YtmkmaignfcjjkaaDoor
