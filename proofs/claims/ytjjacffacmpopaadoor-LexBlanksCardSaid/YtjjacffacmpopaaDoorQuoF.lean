/- quote: bytes laid behind others; putPoint, letterOf, putUnit walked. -/
import Derived.Test.YtjjacffacmpopaaDoorQuoC
import Derived.Test.YtjjacffacmpopaaDoorUtfEs
import Derived.Lib.AppendStr
import Derived.RangeFuncOwn
namespace Go.Proofs.YtjjacffacmpopaaDoor
open Go.RowKit UM QM

theorem keepsOwn {w w' : World} {B : Nat} {e : TypeId} {k : IntKind} {ao : Option Addr} {cap : Nat} {l : List Nat} {n : Nat} (h : Own w B e k ao cap l) (hg : w.grownBy w' (Value.slice ao n cap).ownBlock) : KeepsOthers w w' :=
  KeepsOthers.of_grownBy hg fun j o hj ho => by
    rcases h.2 with ⟨h', _⟩ | ⟨g, cap', cur, h', hB, hgo, hr⟩
    · simp only [Value.slice.injEq] at h'
      rw [h'.1] at hj; cases hj
    · simp only [Value.slice.injEq] at h'
      rw [h'.1] at hj
      have : g = j := by simpa [Value.ownBlock] using hj
      subst this
      rw [hgo] at ho
      cases ho; rfl
section
variable {P : Program} {ops : Array Oper} {rest : List Oper} {o : Oper} {a : Act} {Q : Exit → Act → World → Prop}
/-- 'append(l, y, z, ..)' of numbers typed there -/
theorem wp_apps (w0 : World) (hg : o.guard = none) (s x : Operand) (t : TypeId)
    (hop : o.op = Op.call { callee := Callee.builtin Builtin.append, args := #[s, x], argTypes := #[t, t] })
    (B : Nat) (e : TypeId) (k : IntKind) (bytes : Nat) (hu : P.underlying t = some (.slice e)) (hinfo : (P.info? e).map (fun i => (i.zero, i.size, i.bytes)) = some (some (.int k 0), 1, bytes))
    (ao : Option Addr) (cap n : Nat) (l : List Nat) (hn : n = l.length) (hs : a.eval s = .slice ao n cap) (ys : List Nat) (hy0 : 0 < ys.length) (arr : Array Value) (harr : arr.toList = cs k ys) (e' : TypeId)
    (m : Nat) (hm : m = ys.length) (hx : a.eval x = .slice (some ⟨w0.heap.size, 0, none⟩) m m)
    (hown : Own w0 B e k ao cap l) (hbytes : (l.length + ys.length) * bytes ≤ 140737488355328) (hlen : l.length + ys.length ≤ maxLen) (hB : B ≤ w0.heap.size)
    (hK : ∀ ao' cap' w', Own w' B e k ao' cap' (l ++ ys) → Below B w0 w' → KeepsOthers w0 w' → wpList P ops Q rest (a.put o.dst (.slice ao' (n + m) cap')) w') :
    wpList P ops Q (o :: rest) a (w0.alloc (.cells arr e')) := by
  subst hn hm
  obtain ⟨i, hi, hz0, hz1, hz2⟩ := info_parts hinfo
  have hown1 : Own (w0.alloc (.cells arr e')) B e k ao cap l := hown.alloc _
  have hown' : (w0.alloc (.cells arr e')).ownsRow B e 1 (.slice ao l.length cap) l.length (cs k l) := hown1
  have hal : arr.size = ys.length := by rw [← Array.length_toList, harr, cs_length]
  refine wpList_append_own _ hg s x t hop B e i (.int k 0) 1 bytes hu hi hz0 hz1 hz2 rfl (by decide) _ _ _ hs hown' ⟨w0.heap.size, 0, none⟩ ys.length ys.length (cs k ys) hx (by rw [cs_length, Nat.mul_one]) ?_ (cs_oneCell k ys) hlen hbytes (by simp; omega) ?_
  · intro j u hj
    rw [← harr] at hj
    rw [Lib.add_plain, Nat.zero_add]
    simpa using hj
  · intro v' w' ho hgr hnil
    have hb : Below B w0 w' := ((Below.refl B w0).alloc hB _).grown hgr (by simp; omega) (fun j hj => (hown'.lt j hj).1)
    have hsh : ∃ ao' cap', v' = .slice ao' (l.length + ys.length) cap' := by
      rcases ho.2 with ⟨h1, h2⟩ | ⟨g, cap', cur, h1, _⟩
      · omega
      · exact ⟨_, _, h1⟩
    obtain ⟨ao', cap', rfl⟩ := hsh
    refine hK ao' cap' w' ?_ hb ((KeepsOthers.alloc w0 _).trans (keepsOwn hown1 hgr))
    unfold Own
    rw [cs_append]; simpa using ho
/-- 'append(l, text...)' -/
theorem wp_text (w0 : World) (hg : o.guard = none) (s x : Operand) (t u : TypeId)
    (hop : o.op = Op.call { callee := Callee.builtin Builtin.append, args := #[s, x], argTypes := #[t, u] })
    (B : Nat) (e : TypeId) (ht : P.underlying t = some (.slice e)) (hu : P.underlying u = some .string) (hinfo : (P.info? e).map (fun i => (i.zero, i.size, i.bytes)) = some (some (.int .u8 0), 1, 1))
    (ao : Option Addr) (cap n : Nat) (l : List Nat) (hn : n = l.length) (hs : a.eval s = .slice ao n cap) (m : List Nat) (hm : ∀ y ∈ m, y < 256) (hm0 : 0 < m.length) (hx : a.eval x = .string (tx m))
    (hown : Own w0 B e .u8 ao cap l) (hlen : l.length + m.length ≤ 140737488355328) (hB : B ≤ w0.heap.size)
    (hK : ∀ ao' cap' w', Own w' B e .u8 ao' cap' (l ++ m) → Below B w0 w' → KeepsOthers w0 w' → wpList P ops Q rest (a.put o.dst (.slice ao' (l ++ m).length cap')) w') :
    wpList P ops Q (o :: rest) a w0 := by
  subst hn
  obtain ⟨i, hi, hz0, hz1, hz2⟩ := info_parts hinfo
  have hown' : w0.ownsRow B e 1 (.slice ao l.length cap) l.length (cs .u8 l) := hown
  refine Lib.wpList_append_own_string w0 hg s x t u hop B e i ht hu hi hz0 hz1 hz2 _ _ _ hs hown' (tx m) hx (by rw [tx_size]; unfold maxLen; omega) (by rw [tx_size]; omega) hB ?_
  intro v' w' ho hgr _
  rw [tx_size] at ho
  have hb : Below B w0 w' := (Below.refl B w0).grown hgr hB (fun j hj => (hown'.lt j hj).1)
  have hsh : ∃ ao' cap', v' = .slice ao' (l.length + m.length) cap' := by
    rcases ho.2 with ⟨h1, h2⟩ | ⟨g, cap', cur, h1, _⟩
    · omega
    · exact ⟨_, _, h1⟩
  obtain ⟨ao', cap', rfl⟩ := hsh
  have e1 : Lib.strCells (tx m) = cs .u8 m := by
    unfold Lib.strCells cs
    rw [tx_list, List.map_map]
    refine List.map_congr_left fun y hy => ?_
    show Value.int .u8 ((UInt8.ofNat y).toNat : Int) = _
    rw [UInt8.toNat_ofNat', Nat.mod_eq_of_lt (hm y hy)]
  have hL : l.length + m.length = (l ++ m).length := by simp
  rw [hL]
  refine hK ao' cap' w' ?_ hb (keepsOwn hown hgr)
  unfold Own
  rw [cs_append, ← e1, ← hL]; exact ho
end
def ResApp (B : Nat) (l : List Nat) (w : World) (r : Ending) (w' : World) : Prop := ∃ a c, r = .returned (.slice a l.length c) ∧ Own w' B 5 .u8 a c l ∧ Below B w w' ∧ KeepsOthers w w'
theorem KeepsOthers.ofBelow {w w' : World} (h : Below w.heap.size w w') : KeepsOthers w w' := ⟨h.size, fun k o hk _ => (h.block k (Array.getElem?_eq_some_iff.1 hk).1).trans hk⟩
set_option maxRecDepth 100000 in
set_option maxHeartbeats 2000000 in
theorem putPoint_any (p : Nat) (B : Nat) (ao : Option Addr) (cap : Nat) (l : List Nat) (w : World) (hp : Pt p) (ht : Sh w) (hB : B ≤ w.heap.size) (hl : l.length + (enc p).length ≤ 140737488355328) (hown : Own w B 5 .u8 ao cap l) :
    Calls Tryd.prog 59 #[.slice ao l.length cap, .int .i64 p] w (ResApp B (l ++ enc p) w) := by
  have HO := Lib.hid hown
  have HT := Lib.hid ht
  have hlen : l.length + 1 ≤ maxLen := by unfold maxLen; omega
  have HL := Lib.hid hlen
  clear hown ht hlen
  by_cases c : p ≤ 127
  · have e1 : enc p = [p] := enc1 (by omega)
    rw [e1] at hl ⊢
    rw [List.length_singleton] at hl
    clear e1
    go_enter Tryd.func59, Tryd.ntmps59
    go_wp2_with (refine wp_apps (k := .u8) w rfl _ _ 38 rfl B 5 1 Tryd.underlying38 infoU8 ao cap _ l rfl rfl [p] (by simp) _ rfl _ _ rfl rfl HO.out (by simp; omega) HL.out hB ?_; intro ao' cap' w' h1 h2 h3; have H1 := Lib.hid h1; have H2 := Lib.hid h2; have H3 := Lib.hid h3; clear h1 h2 h3)
    go_ret
    exact ⟨ao', cap', by simp, H1.out, H2.out, H3.out⟩
  · have HE := Lib.hid (Encode_pt p w hp HT.out)
    unfold ResE at HE
    have hm := Lib.hid (enc_lo hp.1)
    have hel : 0 < (enc p).length ∧ (enc p).length ≤ 4 := by rw [enc_len]; exact ⟨by have := (en_pos p).1; omega, (en_pos p).2⟩
    have HEL := Lib.hid hel
    have hc : ¬ (p : Int) ≤ 127 := by omega
    clear hel
    have HL2 := Lib.hid hl
    clear hl
    generalize enc p = m at *
    go_enter Tryd.func59, Tryd.ntmps59
    go_wp2_with fail
    refine HE.out.mono ?_
    rintro r w1 ⟨rfl, hb⟩
    have K1 := Lib.hid (KeepsOthers.ofBelow hb)
    have HO1 := Lib.hid (HO.out.below hb)
    have B1 := Lib.hid (hb.mono hB)
    have hB1 : B ≤ w1.heap.size := Nat.le_trans hB hb.size
    clear hb
    go_wp2_with (refine wp_text w1 rfl _ _ 38 9 rfl B 5 Tryd.underlying38 Tryd.underlying9 infoU8 ao cap _ l rfl rfl m hm.out HEL.out.1 rfl HO1.out HL2.out hB1 ?_; intro ao' cap' w' h1 h2 h3; have H1 := Lib.hid h1; have H2 := Lib.hid h2; have H3 := Lib.hid h3; clear h1 h2 h3)
    go_ret
    exact ⟨ao', cap', by simp, H1.out, B1.out.trans H2.out, K1.out.trans H3.out⟩
/-- the sign of a digit -/
def hxd (d : Nat) : Nat := if d < 10 then 48 + d else 87 + d
def hx4 (u : Nat) : List Nat := [hxd (u / 4096 % 16), hxd (u / 256 % 16), hxd (u / 16 % 16), hxd (u % 16)]
def uni (u : Nat) : List Nat := [92, 117] ++ hx4 u
def letF (p : Nat) : Nat := if p = 34 then 34 else if p = 92 then 92 else if p = 8 then 98 else if p = 9 then 116 else if p = 10 then 110 else if p = 12 then 102 else if p = 13 then 114 else 0
def pieceW (asc : Bool) (p : Nat) : List Nat :=
  if letF p ≠ 0 then [92, letF p] else if p < 32 ∨ p = 127 then uni p else if p ≤ 127 ∨ asc = false then enc p else if p ≤ 65535 then uni p else uni (55296 + (p - 65536) / 1024) ++ uni (56320 + (p - 65536) % 1024)
abbrev digs : ByteArray := ⟨#[48, 49, 50, 51, 52, 53, 54, 55, 56, 57, 97, 98, 99, 100, 101, 102]⟩
theorem dig_tab {i d : Nat} (hd : d < 16) (hi : i = d) (h : i < digs.size) : (digs[i]'h).toNat = hxd d := by
  subst hi
  have : ∀ k : Fin 16, (digs[k.val]'k.isLt).toNat = hxd k.val := by decide
  exact this ⟨i, hd⟩
theorem and15i (x : Nat) (hx : x < 65536) : bits BinOp.and IntKind.i64 (x : Int) 15 = ((x % 16 : Nat) : Int) := by
  have x1 : (BitVec.ofInt 64 ((x : Nat) : Int)).toNat = x := by rw [BitVec.ofInt_natCast, BitVec.toNat_ofNat]; exact Nat.mod_eq_of_lt (by omega)
  show IntKind.i64.wrap ((BitVec.ofInt 64 ((x : Nat) : Int) &&& BitVec.ofInt 64 15).toNat : Int) = _
  rw [BitVec.toNat_and, x1, show (BitVec.ofInt 64 15).toNat = 15 from rfl, nat_mask4, IntWalk.i64_in _ (by omega)]
end Go.Proofs.YtjjacffacmpopaaDoor
