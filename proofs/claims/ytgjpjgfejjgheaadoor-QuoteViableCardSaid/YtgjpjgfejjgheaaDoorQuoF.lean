/- quote: bytes laid behind others; putPoint, letterOf, putUnit walked. -/
import Derived.Test.YtgjpjgfejjgheaaDoorQuoC
import Derived.Test.YtgjpjgfejjgheaaDoorUtfG
import Derived.Lib.AppendStr
import Derived.RangeFuncOwn
namespace Go.Proofs.YtgjpjgfejjgheaaDoor
open Go.RowKit UM QM

theorem keepsOwn {w w' : World} {B : Nat} {e : TypeId} {k : IntKind} {ao : Option Addr} {cap : Nat} {l : List Nat} {n : Nat} (h : Own w B e k ao cap l) (hg : w.grownBy w' (Value.slice ao n cap).ownBlock) : KeepsOthers w w' :=
  KeepsOthers.of_grownBy hg fun j o hj ho => by
    rcases h.2 with ⟨h', _⟩ | ⟨g, cap', cur, h', hB, hgo, hr⟩
    · simp only [Value.slice.injEq] at h'
      rw [h'.1] at hj; cases hj
    · simp only [Value.slice.injEq] at h'
      rw [h'.1] at hj
      have : g = j := by simpa [Value.ownBlock] using hj
      subst this
      rw [hgo] at ho
      cases ho; rfl
section
variable {P : Program} {ops : Array Oper} {rest : List Oper} {o : Oper} {a : Act} {Q : Exit → Act → World → Prop}
/-- 'append(l, y, z, ..)' of numbers typed there -/
theorem wp_apps (w0 : World) (hg : o.guard = none) (s x : Operand) (t : TypeId)
    (hop : o.op = Op.call { callee := Callee.builtin Builtin.append, args := #[s, x], argTypes := #[t, t] })
    (B : Nat) (e : TypeId) (k : IntKind) (bytes : Nat) (hu : P.underlying t = some (.slice e)) (hinfo : (P.info? e).map (fun i => (i.zero, i.size, i.bytes)) = some (some (.int k 0), 1, bytes))
    (ao : Option Addr) (cap n : Nat) (l : List Nat) (hn : n = l.length) (hs : a.eval s = .slice ao n cap) (ys : List Nat) (hy0 : 0 < ys.length) (arr : Array Value) (harr : arr.toList = cs k ys) (e' : TypeId)
    (m : Nat) (hm : m = ys.length) (hx : a.eval x = .slice (some ⟨w0.heap.size, 0, none⟩) m m)
    (hown : Own w0 B e k ao cap l) (hbytes : (l.length + ys.length) * bytes ≤ 140737488355328) (hlen : l.length + ys.length ≤ maxLen) (hB : B ≤ w0.heap.size)
    (hK : ∀ ao' cap' w', Own w' B e k ao' cap' (l ++ ys) → Below B w0 w' → KeepsOthers w0 w' → wpList P ops Q rest (a.put o.dst (.slice ao' (n + m) cap')) w') :
    wpList P ops Q (o :: rest) a (w0.alloc (.cells arr e')) := by
  subst hn hm
  obtain ⟨i, hi, hz0, hz1, hz2⟩ := info_parts hinfo
  have hown1 : Own (w0.alloc (.cells arr e')) B e k ao cap l := hown.alloc _
  have hown' : (w0.alloc (.cells arr e')).ownsRow B e 1 (.slice ao l.length cap) l.length (cs k l) := hown1
  have hal : arr.size = ys.length := by rw [← Array.length_toList, harr, cs_length]
  refine wpList_append_own _ hg s x t hop B e i (.int k 0) 1 bytes hu hi hz0 hz1 hz2 rfl (by decide) _ _ _ hs hown' ⟨w0.heap.size, 0, none⟩ ys.length ys.length (cs k ys) hx (by rw [cs_length, Nat.mul_one]) ?_ (cs_oneCell k ys) hlen hbytes (by simp; omega) ?_
  · intro j u hj
    rw [← harr] at hj
    rw [Lib.add_plain, Nat.zero_add]
    simpa using hj
  · intro v' w' ho hgr hnil
    have hb : Below B w0 w' := ((Below.refl B w0).alloc hB _).grown hgr (by simp; omega) (fun j hj => (hown'.lt j hj).1)
    have hsh : ∃ ao' cap', v' = .slice ao' (l.length + ys.length) cap' := by
      rcases ho.2 with ⟨h1, h2⟩ | ⟨g, cap', cur, h1, _⟩
      · omega
      · exact ⟨_, _, h1⟩
    obtain ⟨ao', cap', rfl⟩ := hsh
    refine hK ao' cap' w' ?_ hb ((KeepsOthers.alloc w0 _).trans (keepsOwn hown1 hgr))
    unfold Own
    rw [cs_append]; simpa using ho
/-- 'append(l, text...)' -/
theorem wp_text (w0 : World) (hg : o.guard = none) (s x : Operand) (t u : TypeId)
    (hop : o.op = Op.call { callee := Callee.builtin Builtin.append, args := #[s, x], argTypes := #[t, u] })
    (B : Nat) (e : TypeId) (ht : P.underlying t = some (.slice e)) (hu : P.underlying u = some .string) (hinfo : (P.info? e).map (fun i => (i.zero, i.size, i.bytes)) = some (some (.int .u8 0), 1, 1))
    (ao : Option Addr) (cap n : Nat) (l : List Nat) (hn : n = l.length) (hs : a.eval s = .slice ao n cap) (m : List Nat) (hm : ∀ y ∈ m, y < 256) (hm0 : 0 < m.length) (hx : a.eval x = .string (tx m))
    (hown : Own w0 B e .u8 ao cap l) (hlen : l.length + m.length ≤ 140737488355328) (hB : B ≤ w0.heap.size)
    (hK : ∀ ao' cap' w', Own w' B e .u8 ao' cap' (l ++ m) → Below B w0 w' → KeepsOthers w0 w' → wpList P ops Q rest (a.put o.dst (.slice ao' (l ++ m).length cap')) w') :
    wpList P ops Q (o :: rest) a w0 := by
  subst hn
  obtain ⟨i, hi, hz0, hz1, hz2⟩ := info_parts hinfo
  have hown' : w0.ownsRow B e 1 (.slice ao l.length cap) l.length (cs .u8 l) := hown
  refine Lib.wpList_append_own_string w0 hg s x t u hop B e i ht hu hi hz0 hz1 hz2 _ _ _ hs hown' (tx m) hx (by rw [tx_size]; unfold maxLen; omega) (by rw [tx_size]; omega) hB ?_
  intro v' w' ho hgr _
  rw [tx_size] at ho
  have hb : Below B w0 w' := (Below.refl B w0).grown hgr hB (fun j hj => (hown'.lt j hj).1)
  have hsh : ∃ ao' cap', v' = .slice ao' (l.length + m.length) cap' := by
    rcases ho.2 with ⟨h1, h2⟩ | ⟨g, cap', cur, h1, _⟩
    · omega
    · exact ⟨_, _, h1⟩
  obtain ⟨ao', cap', rfl⟩ := hsh
  have e1 : Lib.strCells (tx m) = cs .u8 m := by
    unfold Lib.strCells cs
    rw [tx_list, List.map_map]
    refine List.map_congr_left fun y hy => ?_
    show Value.int .u8 ((UInt8.ofNat y).toNat : Int) = _
    rw [UInt8.toNat_ofNat', Nat.mod_eq_of_lt (hm y hy)]
  have hL : l.length + m.length = (l ++ m).length := by simp
  rw [hL]
  refine hK ao' cap' w' ?_ hb (keepsOwn hown hgr)
  unfold Own
  rw [cs_append, ← e1, ← hL]; exact ho
end
def ResApp (B : Nat) (l : List Nat) (w : World) (r : Ending) (w' : World) : Prop := ∃ a c, r = .returned (.slice a l.length c) ∧ Own w' B 5 .u8 a c l ∧ Below B w w' ∧ KeepsOthers w w'
theorem KeepsOthers.ofBelow {w w' : World} (h : Below w.heap.size w w') : KeepsOthers w w' := ⟨h.size, fun k o hk _ => (h.block k (Array.getElem?_eq_some_iff.1 hk).1).trans hk⟩
set_option maxRecDepth 100000 in
set_option maxHeartbeats 2000000 in
theorem putPoint_any (p : Nat) (B : Nat) (ao : Option Addr) (cap : Nat) (l : List Nat) (w : World) (hp : Pt p) (ht : Sh w) (hB : B ≤ w.heap.size) (hl : l.length + (enc p).length ≤ 140737488355328) (hown : Own w B 5 .u8 ao cap l) :
    Calls Tryd.prog 23 #[.slice ao l.length cap, .int .i64 p] w (ResApp B (l ++ enc p) w) := by
  have HO := Lib.hid hown
  have HT := Lib.hid ht
  have hlen : l.length + 1 ≤ maxLen := by unfold maxLen; omega
  have HL := Lib.hid hlen
  clear hown ht hlen
  by_cases c : p ≤ 127
  · have e1 : enc p = [p] := enc1 (by omega)
    rw [e1] at hl ⊢
    rw [List.length_singleton] at hl
    clear e1
    go_enter Tryd.func23, Tryd.ntmps23
    go_wp2_with (refine wp_apps (k := .u8) w rfl _ _ 26 rfl B 5 1 Tryd.underlying26 infoU8 ao cap _ l rfl rfl [p] (by simp) _ rfl _ _ rfl rfl HO.out (by simp; omega) HL.out hB ?_; intro ao' cap' w' h1 h2 h3; have H1 := Lib.hid h1; have H2 := Lib.hid h2; have H3 := Lib.hid h3; clear h1 h2 h3)
    go_ret
    exact ⟨ao', cap', by simp, H1.out, H2.out, H3.out⟩
  · have HE := Lib.hid (Encode_pt p w hp HT.out)
    unfold ResE at HE
    have hm := Lib.hid (enc_lo hp.1)
    have hel : 0 < (enc p).length ∧ (enc p).length ≤ 4 := by rw [enc_len]; exact ⟨by have := (en_pos p).1; omega, (en_pos p).2⟩
    have HEL := Lib.hid hel
    have hc : ¬ (p : Int) ≤ 127 := by omega
    clear hel
    have HL2 := Lib.hid hl
    clear hl
    generalize enc p = m at *
    go_enter Tryd.func23, Tryd.ntmps23
    go_wp2_with fail
    refine HE.out.mono ?_
    rintro r w1 ⟨rfl, hb⟩
    have K1 := Lib.hid (KeepsOthers.ofBelow hb)
    have HO1 := Lib.hid (HO.out.below hb)
    have B1 := Lib.hid (hb.mono hB)
    have hB1 : B ≤ w1.heap.size := Nat.le_trans hB hb.size
    clear hb
    go_wp2_with (refine wp_text w1 rfl _ _ 26 9 rfl B 5 Tryd.underlying26 Tryd.underlying9 infoU8 ao cap _ l rfl rfl m hm.out HEL.out.1 rfl HO1.out HL2.out hB1 ?_; intro ao' cap' w' h1 h2 h3; have H1 := Lib.hid h1; have H2 := Lib.hid h2; have H3 := Lib.hid h3; clear h1 h2 h3)
    go_ret
    exact ⟨ao', cap', by simp, H1.out, B1.out.trans H2.out, K1.out.trans H3.out⟩
/-- the sign of a digit -/
def hxd (d : Nat) : Nat := if d < 10 then 48 + d else 87 + d
def hx4 (u : Nat) : List Nat := [hxd (u / 4096 % 16), hxd (u / 256 % 16), hxd (u / 16 % 16), hxd (u % 16)]
def uni (u : Nat) : List Nat := [92, 117] ++ hx4 u
def letF (p : Nat) : Nat := if p = 34 then 34 else if p = 92 then 92 else if p = 8 then 98 else if p = 9 then 116 else if p = 10 then 110 else if p = 12 then 102 else if p = 13 then 114 else 0
def pieceW (asc : Bool) (p : Nat) : List Nat :=
  if letF p ≠ 0 then [92, letF p] else if p < 32 ∨ p = 127 then uni p else if p ≤ 127 ∨ asc = false then enc p else if p ≤ 65535 then uni p else uni (55296 + (p - 65536) / 1024) ++ uni (56320 + (p - 65536) % 1024)
set_option maxRecDepth 100000 in
set_option maxHeartbeats 2000000 in
theorem letterOf_any (p : Nat) (hp : p ≤ 1114111) (w : World) : Calls Tryd.prog 34 #[.int .i64 p] w fun e w' => e = .returned (.int .u8 (letF p : Nat)) ∧ w = w' := by
  unfold letF
  by_cases h1 : p = 34
  · subst h1
    go_enter Tryd.func34, Tryd.ntmps34
    go_wp2
    go_ret
    exact ⟨rfl, rfl⟩
  by_cases h2 : p = 92
  · subst h2
    go_enter Tryd.func34, Tryd.ntmps34
    go_wp2
    go_ret
    exact ⟨rfl, rfl⟩
  by_cases h3 : p = 8
  · subst h3
    go_enter Tryd.func34, Tryd.ntmps34
    go_wp2
    go_ret
    exact ⟨rfl, rfl⟩
  by_cases h4 : p = 9
  · subst h4
    go_enter Tryd.func34, Tryd.ntmps34
    go_wp2
    go_ret
    exact ⟨rfl, rfl⟩
  by_cases h5 : p = 10
  · subst h5
    go_enter Tryd.func34, Tryd.ntmps34
    go_wp2
    go_ret
    exact ⟨rfl, rfl⟩
  by_cases h6 : p = 12
  · subst h6
    go_enter Tryd.func34, Tryd.ntmps34
    go_wp2
    go_ret
    exact ⟨rfl, rfl⟩
  by_cases h7 : p = 13
  · subst h7
    go_enter Tryd.func34, Tryd.ntmps34
    go_wp2
    go_ret
    exact ⟨rfl, rfl⟩
  rw [if_neg h1, if_neg h2, if_neg h3, if_neg h4, if_neg h5, if_neg h6, if_neg h7]
  have t1 : ((p : Int) == 34) = false := by simp; omega
  have t2 : ((p : Int) == 92) = false := by simp; omega
  have t3 : ((p : Int) == 8) = false := by simp; omega
  have t4 : ((p : Int) == 9) = false := by simp; omega
  have t5 : ((p : Int) == 10) = false := by simp; omega
  have t6 : ((p : Int) == 12) = false := by simp; omega
  have t7 : ((p : Int) == 13) = false := by simp; omega
  clear h1 h2 h3 h4 h5 h6 h7
  go_enter Tryd.func34, Tryd.ntmps34
  go_wp2
  go_ret
  exact ⟨rfl, rfl⟩
abbrev digs : ByteArray := ⟨#[48, 49, 50, 51, 52, 53, 54, 55, 56, 57, 97, 98, 99, 100, 101, 102]⟩
theorem dig_tab {i d : Nat} (hd : d < 16) (hi : i = d) (h : i < digs.size) : (digs[i]'h).toNat = hxd d := by
  subst hi
  have : ∀ k : Fin 16, (digs[k.val]'k.isLt).toNat = hxd k.val := by decide
  exact this ⟨i, hd⟩
theorem and15i (x : Nat) (hx : x < 65536) : bits BinOp.and IntKind.i64 (x : Int) 15 = ((x % 16 : Nat) : Int) := by
  have x1 : (BitVec.ofInt 64 ((x : Nat) : Int)).toNat = x := by rw [BitVec.ofInt_natCast, BitVec.toNat_ofNat]; exact Nat.mod_eq_of_lt (by omega)
  show IntKind.i64.wrap ((BitVec.ofInt 64 ((x : Nat) : Int) &&& BitVec.ofInt 64 15).toNat : Int) = _
  rw [BitVec.toNat_and, x1, show (BitVec.ofInt 64 15).toNat = 15 from rfl, nat_mask4, IntWalk.i64_in _ (by omega)]
set_option maxRecDepth 100000 in
set_option maxHeartbeats 2000000 in
theorem putUnit_any (u : Nat) (B : Nat) (ao : Option Addr) (cap : Nat) (l : List Nat) (w : World) (hu : u < 65536) (hB : B ≤ w.heap.size) (hl : l.length ≤ 100000000000000) (hown : Own w B 5 .u8 ao cap l) :
    Calls Tryd.prog 35 #[.slice ao l.length cap, .int .i64 u] w (ResApp B (l ++ uni u) w) := by
  have HO := Lib.hid hown
  have hlen : l.length + 2 ≤ maxLen := by unfold maxLen; omega
  have HL := Lib.hid hlen
  clear hown hlen
  go_enter Tryd.func35, Tryd.ntmps35
  go_wp2_with (refine wp_apps (k := .u8) w rfl _ _ 26 rfl B 5 1 Tryd.underlying26 infoU8 ao cap _ l rfl rfl [92, 117] (by simp) _ rfl _ _ rfl rfl HO.out (by simp; omega) HL.out hB ?_; intro ao' cap' w' h1 h2 h3; have H1 := Lib.hid h1; have H2 := Lib.hid h2; have H3 := Lib.hid h3; clear h1 h2 h3)
  go_loopw [0, 5] (fun s0 s5 wr => ∃ (j : Nat) (L : List Nat) (a : Option Addr) (c : Nat), j ≤ 4 ∧ s5 = .int .i64 (12 - 4 * j) ∧ s0 = .slice a L.length c ∧ Hid (L = l ++ [92, 117] ++ (hx4 u).take j) ∧ Hid (Own wr B 5 .u8 a c L) ∧ Hid (Below B w wr) ∧ Hid (KeepsOthers w wr)) (fun _ s5 _ => (intOf s5 + 4).toNat)
  case atStart => exact ⟨0, l ++ [92, 117], ao', cap', by omega, rfl, by simp, Lib.hid (by simp), H1, H2, H3⟩
  case round =>
    obtain ⟨j, L, a, c, hj, rfl, rfl, HLL, HOr, HBr, HKr⟩ := hrel
    by_cases hlt : j < 4
    · rcases (by omega : j = 0 ∨ j = 1 ∨ j = 2 ∨ j = 3) with rfl | rfl | rfl | rfl
      · have hd16 : ((u : Int) / 4096) = ((u / 4096 : Nat) : Int) := by omega
        have ha : bits BinOp.and IntKind.i64 (((u / 4096 : Nat)) : Int) 15 = ((u / 4096 % 16 : Nat) : Int) := and15i _ (by omega)
        have hq : u / 4096 % 16 < 16 := Nat.mod_lt _ (by omega)
        obtain ⟨d, hd⟩ : ∃ d, d = u / 4096 % 16 := ⟨_, rfl⟩
        rw [← hd] at ha hq
        have HD := Lib.hid hd
        clear hd
        obtain ⟨x, hx⟩ : ∃ x, x = u / 4096 := ⟨_, rfl⟩
        rw [← hx] at hd16 ha
        have HX := Lib.hid hx
        clear hx
        have hLl : L.length ≤ l.length + 6 := by rw [HLL.out]; simp [hx4]
        have hBs : B ≤ wr.heap.size := Nat.le_trans hB HBr.out.size
        go_wp2_with (refine wp_apps (k := .u8) wr rfl _ _ 26 rfl B 5 1 Tryd.underlying26 infoU8 a c _ L rfl rfl [_] (by simp) _ rfl _ _ rfl rfl HOr.out (by simp; omega) (by unfold maxLen; simp; omega) hBs ?_; intro ao2 cap2 w2 h1 h2 h3; have A1 := Lib.hid h1; have A2 := Lib.hid h2; have A3 := Lib.hid h3; clear h1 h2 h3)
        go_roundw
        case rel => exact ⟨1, L ++ [hxd d], ao2, cap2, by omega, rfl, by simp, Lib.hid (by rw [HLL.out, HD.out]; simp [hx4]), Lib.hid (by first | (rw [dig_tab hq (by simp)] at A1; exact A1.out) | exact A1.out), Lib.hid (HBr.out.trans A2.out), Lib.hid (HKr.out.trans A3.out)⟩
        case measure => simp [intOf]
      · have hd16 : ((u : Int) / 256) = ((u / 256 : Nat) : Int) := by omega
        have ha : bits BinOp.and IntKind.i64 (((u / 256 : Nat)) : Int) 15 = ((u / 256 % 16 : Nat) : Int) := and15i _ (by omega)
        have hq : u / 256 % 16 < 16 := Nat.mod_lt _ (by omega)
        obtain ⟨d, hd⟩ : ∃ d, d = u / 256 % 16 := ⟨_, rfl⟩
        rw [← hd] at ha hq
        have HD := Lib.hid hd
        clear hd
        obtain ⟨x, hx⟩ : ∃ x, x = u / 256 := ⟨_, rfl⟩
        rw [← hx] at hd16 ha
        have HX := Lib.hid hx
        clear hx
        have hLl : L.length ≤ l.length + 6 := by rw [HLL.out]; simp [hx4]
        have hBs : B ≤ wr.heap.size := Nat.le_trans hB HBr.out.size
        go_wp2_with (refine wp_apps (k := .u8) wr rfl _ _ 26 rfl B 5 1 Tryd.underlying26 infoU8 a c _ L rfl rfl [_] (by simp) _ rfl _ _ rfl rfl HOr.out (by simp; omega) (by unfold maxLen; simp; omega) hBs ?_; intro ao2 cap2 w2 h1 h2 h3; have A1 := Lib.hid h1; have A2 := Lib.hid h2; have A3 := Lib.hid h3; clear h1 h2 h3)
        go_roundw
        case rel => exact ⟨2, L ++ [hxd d], ao2, cap2, by omega, rfl, by simp, Lib.hid (by rw [HLL.out, HD.out]; simp [hx4]), Lib.hid (by first | (rw [dig_tab hq (by simp)] at A1; exact A1.out) | exact A1.out), Lib.hid (HBr.out.trans A2.out), Lib.hid (HKr.out.trans A3.out)⟩
        case measure => simp [intOf]
      · have hd16 : ((u : Int) / 16) = ((u / 16 : Nat) : Int) := by omega
        have ha : bits BinOp.and IntKind.i64 (((u / 16 : Nat)) : Int) 15 = ((u / 16 % 16 : Nat) : Int) := and15i _ (by omega)
        have hq : u / 16 % 16 < 16 := Nat.mod_lt _ (by omega)
        obtain ⟨d, hd⟩ : ∃ d, d = u / 16 % 16 := ⟨_, rfl⟩
        rw [← hd] at ha hq
        have HD := Lib.hid hd
        clear hd
        obtain ⟨x, hx⟩ : ∃ x, x = u / 16 := ⟨_, rfl⟩
        rw [← hx] at hd16 ha
        have HX := Lib.hid hx
        clear hx
        have hLl : L.length ≤ l.length + 6 := by rw [HLL.out]; simp [hx4]
        have hBs : B ≤ wr.heap.size := Nat.le_trans hB HBr.out.size
        go_wp2_with (refine wp_apps (k := .u8) wr rfl _ _ 26 rfl B 5 1 Tryd.underlying26 infoU8 a c _ L rfl rfl [_] (by simp) _ rfl _ _ rfl rfl HOr.out (by simp; omega) (by unfold maxLen; simp; omega) hBs ?_; intro ao2 cap2 w2 h1 h2 h3; have A1 := Lib.hid h1; have A2 := Lib.hid h2; have A3 := Lib.hid h3; clear h1 h2 h3)
        go_roundw
        case rel => exact ⟨3, L ++ [hxd d], ao2, cap2, by omega, rfl, by simp, Lib.hid (by rw [HLL.out, HD.out]; simp [hx4]), Lib.hid (by first | (rw [dig_tab hq (by simp)] at A1; exact A1.out) | exact A1.out), Lib.hid (HBr.out.trans A2.out), Lib.hid (HKr.out.trans A3.out)⟩
        case measure => simp [intOf]
      · have ha : bits BinOp.and IntKind.i64 (((u : Nat)) : Int) 15 = ((u % 16 : Nat) : Int) := and15i _ (by omega)
        have hq : u % 16 < 16 := Nat.mod_lt _ (by omega)
        obtain ⟨d, hd⟩ : ∃ d, d = u % 16 := ⟨_, rfl⟩
        rw [← hd] at ha hq
        have HD := Lib.hid hd
        clear hd
        have hLl : L.length ≤ l.length + 6 := by rw [HLL.out]; simp [hx4]
        have hBs : B ≤ wr.heap.size := Nat.le_trans hB HBr.out.size
        go_wp2_with (refine wp_apps (k := .u8) wr rfl _ _ 26 rfl B 5 1 Tryd.underlying26 infoU8 a c _ L rfl rfl [_] (by simp) _ rfl _ _ rfl rfl HOr.out (by simp; omega) (by unfold maxLen; simp; omega) hBs ?_; intro ao2 cap2 w2 h1 h2 h3; have A1 := Lib.hid h1; have A2 := Lib.hid h2; have A3 := Lib.hid h3; clear h1 h2 h3)
        go_roundw
        case rel => exact ⟨4, L ++ [hxd d], ao2, cap2, by omega, rfl, by simp, Lib.hid (by rw [HLL.out, HD.out]; simp [hx4]), Lib.hid (by first | (rw [dig_tab hq (by simp)] at A1; exact A1.out) | exact A1.out), Lib.hid (HBr.out.trans A2.out), Lib.hid (HKr.out.trans A3.out)⟩
        case measure => simp [intOf]
    · have : j = 4 := by omega
      subst this
      have hLL := HLL.out
      have hf : (hx4 u).take 4 = hx4 u := rfl
      rw [hf] at hLL
      go_wp2
      go_ret
      exact ⟨a, c, by rw [hLL]; simp [uni], by rw [show l ++ uni u = L by rw [hLL]; simp [uni]]; exact HOr.out, HBr.out, HKr.out⟩
end Go.Proofs.YtgjpjgfejjgheaaDoor
