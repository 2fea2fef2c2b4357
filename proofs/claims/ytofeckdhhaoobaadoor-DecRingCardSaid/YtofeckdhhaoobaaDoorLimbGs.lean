/- Walks: strconv.FormatUint, AppendUint at base 10; Text, Digits. -/
import Derived.Test.YtofeckdhhaoobaaDoorLimbMaths
import Derived.Test.YtofeckdhhaoobaaDoorLimbF
import Derived.Test.YtofeckdhhaoobaaDoorShelf
import Derived.Lib.AppendStr
import Derived.Lib.IndexBytes
namespace Go.Proofs.YtofeckdhhaoobaaDoor
open Go.RowKit LM

/-- the library's table of powers of ten -/
def Tab (w : World) : Prop := Lib.TabIs Tryd.prog w "internal/strconv.uint64pow10" .u64 Lib.pow10Tab
theorem Tab.below {w w' : World} (h : Tab w) (hb : Below w.heap.size w w') : Tab w' := Lib.tabBelow_of_tabIs h w' hb

set_option maxHeartbeats 4000000 in
set_option maxRecDepth 100000 in
theorem FormatUintIn_any (u : Nat) (w : World) (hu64 : u < 18446744073709551616) (htab : Tab w) :
    Calls Tryd.prog 109 #[.int .u64 u, .int .i64 10] w fun e w' => e = .returned (.string ⟨(Lib.decDigits u).toArray⟩) ∧ Below w.heap.size w w' := by
  by_cases hs : u < 100
  · have iu : (u : Int) < 100 := by omega
    go_enter Tryd.func109, Tryd.ntmps109
    go_wp2_with (go_at_call 118; refine (Tryd.internal_strconv_small u hs _).mono ?_; rintro e w' ⟨rfl, rfl⟩)
    go_ret
    exact ⟨rfl, Below.refl _ _⟩
  · have hu1 : 1 ≤ u := by omega
    have hnd20 : Lib.nDigits u ≤ 20 := by have := Lib.numDigits_eq u hu1 hu64; split at this <;> omega
    have hal : Tryd.prog.arrayLen 139 = 24 := by simp [Program.arrayLen, Tryd.underlying139]
    have hsl : ∀ W, (Instr.sliceAt 139 (.pointer (some ⟨w.heap.size, 0, none⟩)) none (some (.int .i64 (Lib.nDigits u : Int))) none).run Tryd.prog W = .ok (.slice (some ⟨w.heap.size, 0, none⟩) (Lib.nDigits u) 24) W := fun W => by
      rw [run_sliceAt_array_h W 139 ⟨w.heap.size, 0, none⟩ (by simp [Program.arrayLen, Program.elem, Tryd.underlying139]) .i64 (Lib.nDigits u : Int) (by omega) (by rw [hal]; omega)]
      go_simp
    have hH0 := Lib.holds_zero0 w 139 (Lib.nDigits u) (by omega)
    have hfmt := Tryd.internal_strconv_formatBase10 w.heap.size 0 24 u (Array.replicate (Lib.nDigits u) 0) (w.alloc (.cells Lib.zeros24 139)) hH0 (by rw [Array.size_replicate]; exact Lib.lt_pow_nDigits u) hu64 (by rw [Array.size_replicate]; omega)
    rw [Array.size_replicate] at hfmt
    have HH0 := Lib.hid hH0
    have HF := Lib.hid hfmt
    have iu : (100 : Int) ≤ (u : Int) := by omega
    clear hH0 hal hfmt
    go_enter Tryd.func109, Tryd.ntmps109
    go_wp2_with (go_at_call 119; refine (Tryd.internal_strconv_numDigits u hu1 hu64 _ (Lib.tabIs_alloc htab _)).mono ?_; rintro e w' ⟨rfl, rfl⟩)
    refine HF.out.mono ?_
    rintro e w' ⟨rfl, k, v', dk, rfl, hF⟩
    have hcv : (convert 53 9 (.slice (some ⟨w.heap.size, 0, none⟩) (Lib.nDigits u) 24)).run Tryd.prog ((Sort.putRow (fun (b : UInt8) => Value.int .u8 (b.toNat : Int)) (w.alloc (.cells Lib.zeros24 139)) w.heap.size 0 dk).drewN k) = .ok (.string ⟨(Lib.decDigits u).toArray⟩) ((Sort.putRow (fun (b : UInt8) => Value.int .u8 (b.toNat : Int)) (w.alloc (.cells Lib.zeros24 139)) w.heap.size 0 dk).drewN k) := by
      have h := run_convert_bytes_back (P := Tryd.prog) ((Sort.putRow (fun (b : UInt8) => Value.int .u8 (b.toNat : Int)) (w.alloc (.cells Lib.zeros24 139)) w.heap.size 0 dk).drewN k) 53 9 5 ⟨w.heap.size, 0, none⟩ 24 (Lib.decDigits u) Tryd.underlying53 Tryd.underlying5 Tryd.underlying9 (fun j hj => by
        rw [Lib.row_is_numeral hF j hj, Lib.add_plain, World.cell?_drewN]
        exact Sort.cell?_putRow (fun (b : UInt8) => Value.int .u8 (b.toNat : Int)) _ w.heap.size 0 _ dk HH0.out (by rw [hF.size, Array.size_replicate]) j (by rw [hF.size]; rw [Lib.decDigits_length] at hj; exact hj))
      rw [Lib.decDigits_length] at h
      exact h
    obtain ⟨os, eo⟩ := Lib.fin_at w (.cells Lib.zeros24 139) dk k 0
    have hnx2 : Below w.heap.size w ((Sort.putRow (fun (b : UInt8) => Value.int .u8 (b.toNat : Int)) (w.alloc (.cells Lib.zeros24 139)) w.heap.size 0 dk).drewN k) := by rw [eo]; exact Lib.below_grow w.heap.size w (Nat.le_refl _) k os
    have HE := Lib.hid eo
    clear HF eo
    go_wp2
    go_ret
    exact ⟨rfl, hnx2⟩

set_option maxHeartbeats 1000000 in
theorem FormatUint_any (u : Nat) (w : World) (hu64 : u < 18446744073709551616) (htab : Tab w) :
    Calls Tryd.prog 84 #[.int .u64 u, .int .i64 10] w fun e w' => e = .returned (.string ⟨(Lib.decDigits u).toArray⟩) ∧ Below w.heap.size w w' := by
  have HT := Lib.hid htab
  clear htab
  go_enter Tryd.func84, Tryd.ntmps84
  go_wp2_with fail
  refine (FormatUintIn_any u w hu64 HT.out).mono ?_
  rintro e w' ⟨rfl, hb⟩
  go_wp2
  go_ret
  exact ⟨rfl, hb⟩

theorem dec_cells (n : Nat) : Lib.byteCells (Lib.decDigits n) = cs .u8 ((Lib.decDigits n).map (fun (b : UInt8) => b.toNat)) := by simp [Lib.byteCells, cs]

set_option maxHeartbeats 1000000 in
/-- AppendUint onto nothing -/
theorem AppendUint_any (u : Nat) (w : World) (hu64 : u < 18446744073709551616) (htab : Tab w) :
    Calls Tryd.prog 83 #[.slice none 0 0, .int .u64 u, .int .i64 10] w fun e w' => ∃ a cap, e = .returned (.slice a ((Lib.decDigits u).map (fun (b : UInt8) => b.toNat)).length cap) ∧ Own w' w.heap.size 5 .u8 a cap ((Lib.decDigits u).map (fun (b : UInt8) => b.toNat)) ∧ Below w.heap.size w w' := by
  have hA := Tryd.internal_strconv_AppendUint_10 w.heap.size 0 u hu64 (.slice none 0 0) [] w (World.ownsRow_nil _ _ _ _) (Nat.le_refl _) (by omega) htab
  have HA := Lib.hid hA
  clear hA htab
  go_enter Tryd.func83, Tryd.ntmps83
  go_wp2_with fail
  refine HA.out.mono ?_
  rintro e w' ⟨v', rfl, hown, hb, _⟩
  rw [Nat.zero_add, List.nil_append, dec_cells] at hown
  have hsh : ∃ a cap, v' = .slice a ((Lib.decDigits u).map (fun (b : UInt8) => b.toNat)).length cap := by
    rcases hown.2 with ⟨h1, h2⟩ | ⟨g, cap', cur, h1, _⟩
    · rw [List.length_map, h2]; exact ⟨_, _, h1⟩
    · rw [List.length_map]; exact ⟨_, _, h1⟩
  obtain ⟨a, cap, hv⟩ := hsh
  rw [hv] at hown ⊢
  have hown2 : Own w' w.heap.size 5 .u8 a cap ((Lib.decDigits u).map (fun (b : UInt8) => b.toNat)) := by
    unfold Own
    have e : ((Lib.decDigits u).map (fun (b : UInt8) => b.toNat)).length = (Lib.decDigits u).length := List.length_map _
    rw [e] at hown ⊢; exact hown
  clear HA hown hv
  go_wp2
  go_ret
  exact ⟨a, cap, ret_slice (by simp), hown2, hb⟩

set_option maxHeartbeats 2000000 in
/-- Digits: how many there are -/
theorem Digits_any (a : Option Addr) (cap : Nat) (l : List Nat) (w : World) (hl : l.length ≤ 1073741824) (hlo : Lo 4294967296 l) (hrd : Rd w .u32 a l) (htab : Tab w) :
    Calls Tryd.prog 73 #[.slice a l.length cap] w fun e w' => e = .returned (.int .i64 ((dg 10 (vl 1000000000 l)).length : Nat)) ∧ Below w.heap.size w w' := by
  have hn1 := nlen hlo
  have HLO := Lib.hid hlo; have HT := Lib.hid htab
  clear hlo htab
  go_enter Tryd.func73, Tryd.ntmps73
  go_wp2_with fail
  refine (Norm_any a cap l w (by omega) HLO.out hrd).mono ?_
  rintro e w1 ⟨a1, c1, rfl, hown1, hb1⟩
  rcases Nat.eq_zero_or_pos (dg 1000000000 (vl 1000000000 l)).length with h0 | h0
  · have hz : vl 1000000000 l = 0 := (dg_eq_nil (by omega)).1 (List.eq_nil_of_length_eq_zero h0)
    have HZ := Lib.hid hz
    rw [h0]
    clear hown1 hz h0 hn1
    go_wp2
    go_ret
    exact ⟨by rw [HZ.out, dg_zero]; rfl, hb1⟩
  · obtain ⟨h, hh⟩ : ∃ h, (dg 1000000000 (vl 1000000000 l)).length = h + 1 := ⟨_, (Nat.succ_pred_eq_of_pos h0).symm⟩
    have hd := nDigits_high hh
    obtain ⟨b, off, x, e1, HX, hx, c1'⟩ := hown1.rd.get (Lo_dg (by omega) _) h (by omega)
    have hdx : Lib.nDigits x = (Lib.decDigits x).length := (Lib.decDigits_length x).symm
    rw [← HX.out, hdx] at hd
    have h20 : (Lib.decDigits x).length ≤ 20 := by
      rcases Nat.eq_zero_or_pos x with e | e
      · subst e; rw [← hdx, Lib.nDigits_small (by omega)]; omega
      · rw [← hdx]; have := Lib.numDigits_eq x e (by omega); split at this <;> omega
    have HD := Lib.hid hd
    have hF := FormatUint_any x w1 (by omega) (HT.out.below hb1)
    have HF := Lib.hid hF
    rw [hh]
    subst e1
    clear hown1 hd hdx h0 hF
    have hcI : w1.cell? ⟨b, off + h, none⟩ = some (.int .u32 (x : Int)) := c1'
    have hn2 : h ≤ l.length := by omega
    clear hn1 hh c1'
    go_wp2_with fail
    refine HF.out.mono ?_
    rintro e w2 ⟨rfl, hb2⟩
    go_wp2
    go_ret
    refine ⟨?_, hb1.trans (hb2.mono hb1.size)⟩
    rw [HD.out]
    exact ret_int (by simp)
end Go.Proofs.YtofeckdhhaoobaaDoor

/- Walks: Text. -/
namespace Go.Proofs.YtofeckdhhaoobaaDoor
open Go.RowKit LM

/-- bytes as numbers -/
def nb (l : List UInt8) : List Nat := l.map (fun (b : UInt8) => b.toNat)
theorem nb_length (l : List UInt8) : (nb l).length = l.length := by simp [nb]
theorem nb_append (l m : List UInt8) : nb (l ++ m) = nb l ++ nb m := by simp [nb]

/-- 'append(l, s...)', l the call's own, s a text -/
theorem wp_pushStr {P : Program} {ops : Array Oper} {rest : List Oper} {o : Oper} {a : Act} {Q : Exit → Act → World → Prop} (w : World) (hg : o.guard = none) (s x : Operand) (t u : TypeId)
    (hop : o.op = Op.call { callee := Callee.builtin Builtin.append, args := #[s, x], argTypes := #[t, u] })
    (B : Nat) (e : TypeId) (hu : P.underlying t = some (.slice e)) (hu2 : P.underlying u = some .string) (hinfo : (P.info? e).map (fun i => (i.zero, i.size, i.bytes)) = some (some (.int .u8 0), 1, 1))
    (ao : Option Addr) (cap n : Nat) (l : List Nat) (hn : n = l.length) (hs : a.eval s = .slice ao n cap) (sv : ByteArray) (hx : a.eval x = .string sv)
    (hown : Own w B e .u8 ao cap l) (hbytes : l.length + sv.size ≤ 140737488355328) (hB : B ≤ w.heap.size)
    (hK : ∀ ao' cap' w', Own w' B e .u8 ao' cap' (l ++ nb sv.data.toList) → Below B w w' → wpList P ops Q rest (a.put o.dst (.slice ao' (n + sv.size) cap')) w') :
    wpList P ops Q (o :: rest) a w := by
  subst hn
  obtain ⟨i, hi, hz0, hz1, hz2⟩ := info_parts hinfo
  refine Lib.wpList_append_own_string _ hg s x t u hop B e i hu hu2 hi hz0 hz1 hz2 _ _ _ hs hown sv hx (by unfold maxLen; omega) hbytes hB ?_
  intro v' w' ho hgr hnil
  have hb : Below B w w' := (Below.refl B w).grown hgr hB (fun j hj => (World.ownsRow.lt hown j hj).1)
  have e1 : Lib.strCells sv = cs .u8 (nb sv.data.toList) := by simp [Lib.strCells, cs, nb]
  have e2 : (nb sv.data.toList).length = sv.size := by rw [nb_length]; rfl
  have hsh : ∃ ao' cap', v' = .slice ao' (l.length + sv.size) cap' := by
    rcases ho.2 with ⟨h1, h2⟩ | ⟨g, cap', cur, h1, _⟩
    · rw [h2]; exact ⟨_, _, h1⟩
    · exact ⟨_, _, h1⟩
  obtain ⟨ao', cap', rfl⟩ := hsh
  refine hK ao' cap' w' ?_ hb
  unfold Own
  rw [cs_append, List.length_append, e2, ← e1]; exact ho
theorem extract_tail (l : List UInt8) : ((⟨l.toArray⟩ : ByteArray).extract 1 (⟨l.toArray⟩ : ByteArray).size).data.toList = l.drop 1 := by
  rw [Lib.extract_to_end]

/-- a slice of the call's own as a text -/
theorem conv_back {P : Program} (w : World) (src dst e : TypeId) (B g cap q : Nat) (l : List UInt8) (hs : P.underlying src = some (.slice e)) (he : P.underlying e = some (.int .u8)) (hd : P.underlying dst = some .string)
    (hown : Own w B e .u8 (some ⟨g, 0, none⟩) cap (nb l)) (hq : q = l.length) :
    (convert src dst (.slice (some ⟨g, 0, none⟩) q cap)).run P w = .ok (.string ⟨l.toArray⟩) w := by
  subst hq
  refine run_convert_bytes_back w src dst e ⟨g, 0, none⟩ cap l hs he hd (fun j hj => ?_)
  rw [Lib.add_plain, Nat.zero_add, hown.cell j (by rw [nb_length]; exact hj)]
  simp [nb, hj]

theorem dec20 {x : Nat} (h : x < 18446744073709551616) : (Lib.decDigits x).length ≤ 20 := by
  rw [Lib.decDigits_length]
  rcases Nat.eq_zero_or_pos x with e | e
  · subst e; rw [Lib.nDigits_small (by omega)]; omega
  · have := Lib.numDigits_eq x e h; split at this <;> omega
theorem dec10 {y : Nat} (h : y < 1000000000) : (⟨(Lib.decDigits (y + 1000000000)).toArray⟩ : ByteArray).size = 10 := by
  have e : (⟨(Lib.decDigits (y + 1000000000)).toArray⟩ : ByteArray).size = (Lib.decDigits (y + 1000000000)).length := by simp [ByteArray.size]
  rw [e, Lib.decDigits_length]
  exact Lib.nDigits_unique 9 _ (by rw [show (10 : Nat) ^ 9 = 1000000000 by decide]; omega) (by rw [show (10 : Nat) ^ (9 + 1) = 10000000000 by decide]; omega)

set_option maxHeartbeats 4000000 in
/-- Text: the decimal text -/
theorem Text_any (a : Option Addr) (cap : Nat) (l : List Nat) (w : World) (hl : l.length ≤ 1073741824) (hlo : Lo 4294967296 l) (hrd : Rd w .u32 a l) (htab : Tab w) :
    Calls Tryd.prog 49 #[.slice a l.length cap] w fun e w' => e = .returned (.string ⟨(Lib.decDigits (vl 1000000000 l)).toArray⟩) ∧ Below w.heap.size w w' := by
  have hn1 := nlen hlo
  have HLO := Lib.hid hlo; have HT := Lib.hid htab
  clear hlo htab
  go_enter Tryd.func49, Tryd.ntmps49
  go_wp2_with fail
  refine (Norm_any a cap l w (by omega) HLO.out hrd).mono ?_
  rintro e w1 ⟨a1, c1, rfl, hown1, hb1⟩
  rcases Nat.eq_zero_or_pos (dg 1000000000 (vl 1000000000 l)).length with h0 | h0
  · have hz : vl 1000000000 l = 0 := (dg_eq_nil (by omega)).1 (List.eq_nil_of_length_eq_zero h0)
    have HZ := Lib.hid hz
    rw [h0]
    clear hown1 hz h0 hn1
    go_wp2
    go_ret
    exact ⟨by rw [HZ.out, Lib.decDigits_one (by omega)]; rfl, hb1⟩
  · obtain ⟨h, hh⟩ : ∃ h, (dg 1000000000 (vl 1000000000 l)).length = h + 1 := ⟨_, (Nat.succ_pred_eq_of_pos h0).symm⟩
    have hpos : ∀ k, k ≤ h → 1 ≤ vl 1000000000 ((dg 1000000000 (vl 1000000000 l)).drop k) := fun k hk => drop_pos hh hk
    have htop := vl_top hh
    have hfull : vl 1000000000 ((dg 1000000000 (vl 1000000000 l)).drop 0) = vl 1000000000 l := by rw [List.drop_zero, vl_dg (by omega)]
    have hlx := Lo_dg (b := 1000000000) (by omega) (vl 1000000000 l)
    obtain ⟨b, off, e1, hcs⟩ := hown1.rd.at (by omega)
    have hx : (dg 1000000000 (vl 1000000000 l))[h]?.getD 0 < 1000000000 := Lo_get hlx (by omega) h
    have hch := hcs h (by omega)
    have hrd1 := hown1.rd
    have HP := Lib.hid hpos; have HF := Lib.hid hfull; have HL := Lib.hid hlx; have HRD := Lib.hid hrd1
    rw [hh]
    have hhl : h ≤ l.length := by omega
    have HH := Lib.hid hh
    clear hown1 hpos hfull hlx hcs h0 hrd1 hn1 hh
    generalize dg 1000000000 (vl 1000000000 l) = X at *
    obtain ⟨x, hxe⟩ : ∃ x, x = X[h]?.getD 0 := ⟨_, rfl⟩
    rw [← hxe] at hx hch htop
    have HX := Lib.hid hxe
    have HTOP := Lib.hid htop
    clear hxe htop
    subst e1
    go_wp2_with fail
    refine (AppendUint_any x w1 (by omega) (HT.out.below hb1)).mono ?_
    rintro e w2 ⟨a2, c2, rfl, hown2, hb2⟩
    have hl20 : (nb (Lib.decDigits x)).length = (Lib.decDigits x).length := nb_length _
    obtain ⟨q, hq⟩ : ∃ q, q = ((Lib.decDigits x).map (fun (b : UInt8) => b.toNat)).length := ⟨_, rfl⟩
    rw [← hq]
    have HQ : Hid (q = (nb (Lib.decDigits x)).length) := hq
    have hown3 : Own w2 w1.heap.size 5 .u8 a2 c2 (nb (Lib.decDigits x)) := hown2
    have HT1 := Lib.hid (HT.out.below hb1)
    clear hown2 hq hl20 hrd
    go_wp2_with fail
    go_loopw [5, 23] (fun v5 i wr => ∃ (k q cap : Nat) (ao : Option Addr), k ≤ h ∧ i = .int .i64 k ∧ v5 = .slice ao q cap ∧ Hid (q = (Lib.decDigits (vl 1000000000 (X.drop (h - k)))).length) ∧ q ≤ 20 + 9 * k ∧
        Own wr w1.heap.size 5 .u8 ao cap (nb (Lib.decDigits (vl 1000000000 (X.drop (h - k))))) ∧ Below w1.heap.size w1 wr) (fun _ i _ => h - (intOf i).toNat)
    case atStart => exact ⟨0, q, c2, a2, Nat.zero_le _, rfl, rfl, (by rw [Nat.sub_zero, HTOP.out, ← nb_length]; exact HQ.out : q = (Lib.decDigits (vl 1000000000 (X.drop (h - 0)))).length), by rw [HQ.out, nb_length]; exact dec20 (by omega), by rw [Nat.sub_zero, HTOP.out]; exact hown3, hb2⟩
    case round =>
      obtain ⟨k, q, cap, ao, hk, rfl, rfl, HQ, hq, hownr, hblr⟩ := hrel
      by_cases hlt : k < h
      · have hlen := HH.out
        obtain ⟨b', off', y, ey, HY, hy, cy⟩ := (HRD.out.below hblr).get HL.out (h - 1 - k) (by omega)
        simp only [Option.some.injEq, Addr.mk.injEq, and_true] at ey
        obtain ⟨rfl, rfl⟩ := ey
        have HLEN := Lib.hid hlen
        clear hlen
        have hF := FormatUint_any (y + 1000000000) wr (by omega) (HT1.out.below hblr)
        rw [Int.natCast_add] at hF
        have HFF := Lib.hid hF
        clear hF
        go_wp2_with fail
        refine HFF.out.mono ?_
        rintro e w3 ⟨rfl, hb3⟩
        have hown4 := hownr.below hb3
        have hs10 : (⟨(Lib.decDigits (y + 1000000000)).toArray⟩ : ByteArray).size = 10 := dec10 hy
        have hq2 := HQ.out
        have hb47 : (nb (Lib.decDigits (vl 1000000000 (X.drop (h - k))))).length + ((⟨(Lib.decDigits (y + 1000000000)).toArray⟩ : ByteArray).extract 1 (⟨(Lib.decDigits (y + 1000000000)).toArray⟩ : ByteArray).size).size ≤ 140737488355328 := by
          rw [nb_length, ← hq2, ByteArray.size_extract, hs10]; omega
        have hsz3 : w1.heap.size ≤ w3.heap.size := Nat.le_trans hblr.size hb3.size
        have hs1 : 1 ≤ (⟨(Lib.decDigits (y + 1000000000)).toArray⟩ : ByteArray).size := by omega
        have HB47 := Lib.hid hb47; have HS10 := Lib.hid hs10
        clear hb47 hs10 hq2
        go_wp2_with (at_builtin; refine wp_pushStr _ rfl _ _ 53 9 rfl w1.heap.size 5 Tryd.underlying53 Tryd.underlying9 infoU8 ao cap q _ (by rw [nb_length]; exact HQ.out) rfl _ rfl hown4 HB47.out hsz3 ?_)
        intro ao5 cap5 w5 hown5 hb5
        have hbl5 := hblr.trans ((hb3.mono hblr.size).trans hb5)
        have hd9 : (Lib.decDigits (y + 1000000000)).length = 10 := by have := HS10.out; simpa [ByteArray.size] using this
        have e0 : X.drop (h - (k + 1)) = y :: X.drop (h - k) := by rw [drop_cons (by have := HLEN.out; omega), show h - (k + 1) = h - 1 - k by omega, ← HY.out, show h - 1 - k + 1 = h - k by omega]
        have e1 : Lib.decDigits (vl 1000000000 (X.drop (h - (k + 1)))) = Lib.decDigits (vl 1000000000 (X.drop (h - k))) ++ (Lib.decDigits (y + 1000000000)).drop 1 := by
          rw [e0, vl, dec_step y _ hy (HP.out (h - k) (by omega))]
        have hown6 : Own w5 w1.heap.size 5 .u8 ao5 cap5 (nb (Lib.decDigits (vl 1000000000 (X.drop (h - (k + 1)))))) := by
          rw [e1, nb_append, List.drop_one]
          rw [List.take_of_length_le (by simp)] at hown5; exact hown5
        have hlen6 : q + ((Lib.decDigits (y + 1000000000)).length - 1) = (Lib.decDigits (vl 1000000000 (X.drop (h - (k + 1))))).length := by
          rw [e1, List.length_append, List.length_drop, ← HQ.out]
        have HL6 := Lib.hid hlen6
        have HD9 := Lib.hid hd9
        clear hown4 hownr hown5 hlen6 hd9 e0 e1
        go_wp2
        go_roundw
        case rel => exact ⟨k + 1, q + ((Lib.decDigits (y + 1000000000)).length - 1), cap5, ao5, by omega, by go_num, rfl, HL6, by rw [HD9.out]; omega, hown6, hbl5⟩
        case measure => simp [intOf]; omega
      · obtain rfl : k = h := by omega
        have hq2 := HQ.out
        rw [Nat.sub_self, HF.out] at hq2 hownr
        have hblw := hb1.trans (hblr.mono hb1.size)
        rcases hownr.shape with ⟨_, _, hn⟩ | ⟨g, hg, _⟩
        · exfalso
          have h1 := Lib.nDigits_pos (vl 1000000000 l)
          rw [← Lib.decDigits_length, ← nb_length, hn] at h1
          simp at h1
        · subst hg
          have hcv := conv_back (P := Tryd.prog) wr 53 9 5 w1.heap.size g cap q (Lib.decDigits (vl 1000000000 l)) Tryd.underlying53 Tryd.underlying5 Tryd.underlying9 hownr hq2
          clear hq2 hownr
          go_wp2
          go_ret
          exact ⟨rfl, hblw⟩
end Go.Proofs.YtofeckdhhaoobaaDoor
