/- put: a code point's bytes laid behind others. -/
import Derived.Test.YtpgiljibicigeaaGreatDoorUtfA
import Derived.StillTailTactics
import Derived.Deep.RegionLaw
import Derived.Deep.AppendLies
set_option linter.unusedVariables false
set_option linter.unusedSimpArgs false
namespace Go.Proofs.YtpgiljibicigeaaGreatDoor
open Go.RowKit UM

theorem infoU8 : (Tryz.prog.info? 5).map (fun i => (i.zero, i.size, i.bytes)) = some (some (.int .u8 0), 1, 1) := by kernel_rfl
theorem wrap8 (x : Nat) : IntKind.u8.wrap (x : Int) = ((x % 256 : Nat) : Int) := by
  show ((x : Int) % 256) = _
  omega
theorem or0 : ∀ c : Fin 128, bits BinOp.or IntKind.u8 0 (c.val : Int) = (c.val : Int) := by decide +kernel
theorem or192 : ∀ c : Fin 32, bits BinOp.or IntKind.u8 192 (c.val : Int) = ((192 + c.val : Nat) : Int) := by decide +kernel
theorem or224 : ∀ c : Fin 16, bits BinOp.or IntKind.u8 224 (c.val : Int) = ((224 + c.val : Nat) : Int) := by decide +kernel
theorem or240 : ∀ c : Fin 8, bits BinOp.or IntKind.u8 240 (c.val : Int) = ((240 + c.val : Nat) : Int) := by decide +kernel
theorem first0 {p : Nat} (h : p < 128) : bits BinOp.or IntKind.u8 0 (IntKind.u8.wrap (p : Int)) = (p : Int) := by
  rw [wrap8, show p % 256 = p by omega]; exact or0 ⟨p, h⟩
theorem first1 {p : Nat} (h : p < 2048) : bits BinOp.or IntKind.u8 192 (IntKind.u8.wrap ((p : Int) / 64)) = ((192 + p / 64 : Nat) : Int) := by
  rw [show (p : Int) / 64 = ((p / 64 : Nat) : Int) by omega, wrap8, show p / 64 % 256 = p / 64 by omega]; exact or192 ⟨p / 64, by omega⟩
theorem first2 {p : Nat} (h : p < 65536) : bits BinOp.or IntKind.u8 224 (IntKind.u8.wrap ((p : Int) / 4096)) = ((224 + p / 4096 : Nat) : Int) := by
  rw [show (p : Int) / 4096 = ((p / 4096 : Nat) : Int) by omega, wrap8, show p / 4096 % 256 = p / 4096 by omega]; exact or224 ⟨p / 4096, by omega⟩
theorem first3 {p : Nat} (h : p ≤ 1114111) : bits BinOp.or IntKind.u8 240 (IntKind.u8.wrap ((p : Int) / 262144)) = ((240 + p / 262144 : Nat) : Int) := by
  rw [show (p : Int) / 262144 = ((p / 262144 : Nat) : Int) by omega, wrap8, show p / 262144 % 256 = p / 262144 by omega]; exact or240 ⟨p / 262144, by omega⟩
/-- a code point's first bytes, all but k -/
def pre (p k : Nat) : List Nat := (enc p).take (en p - k)
theorem pre_all (p : Nat) : pre p 0 = enc p := by unfold pre; rw [← enc_len]; simp
theorem pre_first0 {p : Nat} (h : p < 128) : pre p 0 = [p] := by rw [pre_all, enc1 h]
theorem pre_first1 {p : Nat} (h : ¬ p < 128) (h2 : p < 2048) : pre p 1 = [192 + p / 64] := by
  unfold pre; rw [enc2 h h2, show en p = 2 by unfold en; rw [if_neg h, if_pos h2]]; rfl
theorem pre_first2 {p : Nat} (h : ¬ p < 2048) (h2 : p < 65536) : pre p 2 = [224 + p / 4096] := by
  unfold pre; rw [enc3 h h2, show en p = 3 by unfold en; rw [if_neg (by omega), if_neg h, if_pos h2]]; rfl
theorem pre_first3 {p : Nat} (h : ¬ p < 65536) : pre p 3 = [240 + p / 262144] := by
  unfold pre; rw [enc4 h, show en p = 4 by unfold en; rw [if_neg (by omega), if_neg (by omega), if_neg h]]; rfl
theorem pre_step1 {p : Nat} (h : 2 ≤ en p) : pre p 1 ++ [128 + p % 64] = pre p 0 := by
  unfold pre en at *
  by_cases c1 : p < 128
  · rw [if_pos c1] at h; omega
  by_cases c2 : p < 2048
  · rw [if_neg c1, if_pos c2, enc2 c1 c2]; rfl
  by_cases c3 : p < 65536
  · rw [if_neg c1, if_neg c2, if_pos c3, enc3 c2 c3]; rfl
  · rw [if_neg c1, if_neg c2, if_neg c3, enc4 c3]; rfl
theorem pre_step2 {p : Nat} (h : 3 ≤ en p) : pre p 2 ++ [128 + p / 64 % 64] = pre p 1 := by
  unfold pre en at *
  by_cases c1 : p < 128
  · rw [if_pos c1] at h; omega
  by_cases c2 : p < 2048
  · rw [if_neg c1, if_pos c2] at h; omega
  by_cases c3 : p < 65536
  · rw [if_neg c1, if_neg c2, if_pos c3, enc3 c2 c3]; rfl
  · rw [if_neg c1, if_neg c2, if_neg c3, enc4 c3]; rfl
theorem pre_step3 {p : Nat} (h : 4 ≤ en p) : pre p 3 ++ [128 + p / 4096 % 64] = pre p 2 := by
  unfold pre en at *
  by_cases c1 : p < 128
  · rw [if_pos c1] at h; omega
  by_cases c2 : p < 2048
  · rw [if_neg c1, if_pos c2] at h; omega
  by_cases c3 : p < 65536
  · rw [if_neg c1, if_neg c2, if_pos c3] at h; omega
  · rw [if_neg c1, if_neg c2, if_neg c3, enc4 c3]; rfl
/-- iterators over texts stand as they did -/
def KI (w w' : World) : Prop := ∀ (K : Nat) (s : ByteArray) (pos : Nat), w.heap[K]? = some (.stringIter s pos) → w'.heap[K]? = some (.stringIter s pos)
theorem KI.trans {a b c : World} (h : KI a b) (k : KI b c) : KI a c := fun K s pos e => k K s pos (h K s pos e)
theorem KI.ofBelow {w w' : World} (h : Below w.heap.size w w') : KI w w' := fun K s pos e => by
  have hk : K < w.heap.size := (Array.getElem?_eq_some_iff.1 e).1
  rw [h.block K hk]; exact e
/-- a row is no iterator -/
theorem Own.noIter {w : World} {B : Nat} {e : TypeId} {k : IntKind} {a : Option Addr} {cap : Nat} {l : List Nat} (h : Own w B e k a cap l) {K : Nat} {s : ByteArray} {pos : Nat} (hi : w.heap[K]? = some (.stringIter s pos)) : Apart a K := by
  intro b off he
  rcases h.2 with ⟨h', _⟩ | ⟨g, cap', cur, h', hB, hg, hr⟩
  · simp only [Value.slice.injEq] at h'
    rw [h'.1] at he; cases he
  · simp only [Value.slice.injEq] at h'
    rw [h'.1] at he
    simp only [Option.some.injEq, Addr.mk.injEq] at he
    intro e
    rw [← he.1] at e
    rw [e, hi] at hg
    cases hg
theorem Own.ki {w w' : World} {B : Nat} {e : TypeId} {k : IntKind} {a : Option Addr} {n cap : Nat} {l : List Nat} (h : Own w B e k a cap l) (hg : w.grownBy w' (Value.slice a n cap).ownBlock) : KI w w' := by
  intro K s pos hi
  have hk : K < w.heap.size := (Array.getElem?_eq_some_iff.1 hi).1
  have ha := h.noIter hi
  rw [hg.block K hk ?_]
  · exact hi
  · intro e
    rcases h.shape with ⟨h1, _⟩ | ⟨g, h1, _⟩
    · rw [h1] at e; cases e
    · rw [h1] at e
      have := ha g 0 h1
      simp [Value.ownBlock] at e
      exact this e.symm

section
variable {P : Program} {ops : Array Oper} {rest : List Oper} {o : Oper} {a : Act} {Q : Exit → Act → World → Prop}
/-- 'append(l, y)', l the call's own; it may grow; iterators stand. -/
theorem wp_push2 (w0 : World) (hg : o.guard = none) (s x : Operand) (t : TypeId)
    (hop : o.op = Op.call { callee := Callee.builtin Builtin.append, args := #[s, x], argTypes := #[t, t] })
    (B : Nat) (e : TypeId) (k : IntKind) (bytes : Nat) (hu : P.underlying t = some (.slice e)) (hinfo : (P.info? e).map (fun i => (i.zero, i.size, i.bytes)) = some (some (.int k 0), 1, bytes))
    (ao : Option Addr) (cap n : Nat) (l : List Nat) (hn : n = l.length) (hs : a.eval s = .slice ao n cap) (yv : Int) (y : Nat) (hy : yv = (y : Int)) (e' : TypeId)
    (hx : a.eval x = .slice (some ⟨w0.heap.size, 0, none⟩) 1 1)
    (hown : Own w0 B e k ao cap l) (hbytes : (l.length + 1) * bytes ≤ 140737488355328) (hlen : l.length + 1 ≤ maxLen) (hB : B ≤ w0.heap.size)
    (hK : ∀ ao' cap' w', Own w' B e k ao' cap' (l ++ [y]) → Below B w0 w' → KI w0 w' → wpList P ops Q rest (a.put o.dst (.slice ao' (n + 1) cap')) w') :
    wpList P ops Q (o :: rest) a (w0.alloc (.cells #[.int k yv] e')) := by
  subst hn hy
  obtain ⟨i, hi, hz0, hz1, hz2⟩ := info_parts hinfo
  have hown1 : Own (w0.alloc (.cells #[.int k (y : Int)] e')) B e k ao cap l := hown.alloc _
  have hown' : (w0.alloc (.cells #[.int k (y : Int)] e')).ownsRow B e 1 (.slice ao l.length cap) l.length (cs k l) := hown1
  refine wpList_append_own _ hg s x t hop B e i (.int k 0) 1 bytes hu hi hz0 hz1 hz2 rfl (by decide) _ _ _ hs hown' ⟨w0.heap.size, 0, none⟩ 1 1 [.int k (y : Int)] hx rfl ?_ ?_ hlen hbytes (by simp; omega) ?_
  · intro j u hj
    match j, hj with
    | 0, hj =>
      simp at hj; subst hj
      simp [Addr.add]
    | j + 1, hj => simp at hj
  · intro u hu; simp at hu; subst hu; rfl
  · intro v' w' ho hgr hnil
    have hb : Below B w0 w' := ((Below.refl B w0).alloc hB _).grown hgr (by simp; omega) (fun j hj => (hown'.lt j hj).1)
    have hki : KI w0 w' := (KI.ofBelow ((Below.refl _ _).alloc (Nat.le_refl _) _)).trans (hown1.ki hgr)
    have hsh : ∃ ao' cap', v' = .slice ao' (l.length + 1) cap' := by
      rcases ho.2 with ⟨h1, h2⟩ | ⟨g, cap', cur, h1, _⟩
      · omega
      · exact ⟨_, _, h1⟩
    obtain ⟨ao', cap', rfl⟩ := hsh
    refine hK ao' cap' w' ?_ hb hki
    unfold Own
    rw [cs_append, show cs k [y] = [Value.int k (y : Int)] from rfl]; simpa using ho
end
def ResPut (B : Nat) (l : List Nat) (w : World) (r : Ending) (w' : World) : Prop := ∃ a c, r = .returned (.slice a l.length c) ∧ Own w' B 5 .u8 a c l ∧ Below B w w' ∧ KI w w'
/-- what stands while a code point's bytes are laid: k more are to come -/
def PutAt (p B : Nat) (l : List Nat) (w : World) (k : Nat) (v : Value) (wr : World) : Prop := ∃ a c n, v = .slice a n c ∧ n = (l ++ pre p k).length ∧ Own wr B 5 .u8 a c (l ++ pre p k) ∧ (Below B w wr ∧ KI w wr) ∧ k + 1 ≤ en p
def PutRel (p B : Nat) (l : List Nat) (w : World) (v0 v6 : Value) (wr : World) : Prop :=
  (v6 = .int .i64 0 ∧ PutAt p B l w 0 v0 wr) ∨ (v6 = .int .i64 6 ∧ PutAt p B l w 1 v0 wr) ∨ (v6 = .int .i64 12 ∧ PutAt p B l w 2 v0 wr) ∨ (v6 = .int .i64 18 ∧ PutAt p B l w 3 v0 wr)
theorem PutAt.mk {p B : Nat} {l : List Nat} {w : World} {k y : Nat} {a : Option Addr} {c : Nat} {wr : World} (h : pre p k = [y]) (ho : Own wr B 5 .u8 a c (l ++ [y])) (hb : Below B w wr ∧ KI w wr) (hk : k + 1 ≤ en p) : PutAt p B l w k (.slice a (l.length + 1) c) wr :=
  ⟨a, c, _, rfl, by rw [h]; simp, by rw [h]; exact ho, hb, hk⟩

set_option maxHeartbeats 16000000 in
theorem put_any (p : Nat) (B : Nat) (ao : Option Addr) (cap : Nat) (l : List Nat) (w : World) (hp : p ≤ 1114111) (ht : Sh w) (hB : B ≤ w.heap.size) (hl : l.length ≤ 140737488355000) (hown : Own w B 5 .u8 ao cap l) :
    Calls Tryz.prog 101 #[.slice ao l.length cap, .int .i64 p] w (ResPut B (l ++ enc p) w) := by
  have hS := fun W h => sizeOf_any p W hp h
  have HS := Lib.hid hS
  have HT := Lib.hid ht
  have en4 := (en_pos p).2
  have hpl : ∀ k, (pre p k).length ≤ 4 := fun k => by unfold pre; rw [List.length_take, enc_len]; omega
  have HPL := Lib.hid hpl
  clear hS hpl en4
  go_enter Tryz.func101, Tryz.ntmps101
  go_wp2_with fail
  refine (HS.out _ HT.out).mono ?_
  rintro r w1 ⟨rfl, rfl⟩
  obtain ⟨k0, k1, k2, k3, k4, k5, k6, k7, k8, k9, k10, k11⟩ := ht
  have hlen : l.length + 1 ≤ maxLen := by unfold maxLen; omega
  have hby : (l.length + 1) * 1 ≤ 140737488355328 := by omega
  have HO := Lib.hid hown
  have HL := Lib.hid hlen; have HBY := Lib.hid hby
  clear hown hlen hby
  by_cases c1 : p < 128
  · have e1 : en p = 1 := by unfold en; rw [if_pos c1]
    have HE := Lib.hid e1
    rw [e1]
    clear e1
    have q0 : IntKind.i64.wrap 0 = 0 := by decide
    have q1 := first0 c1
    have HP := Lib.hid (pre_first0 c1)
    go_wp2_with fail
    go_region_law ((refine step_push _ rfl _ _ 52 rfl B 5 .u8 1 Tryz.underlying52 infoU8 ao cap l.length l rfl rfl (p) w.heap.size rfl (by simp) (HO.out.alloc _).drew HBY.out HL.out (by simp; omega) ?_; intro ao' cap' w' hp1 hp2 hp3))
    all_goals
      have B_ := Lib.hid (And.intro ((((Below.refl B w).alloc hB _).drew).trans hp2) ((KI.ofBelow (((Below.refl _ _).alloc (Nat.le_refl _) _).drew)).trans ((HO.out.alloc _).drew.ki hp3)))
      clear q0 q1 hp3
      have O_ := Lib.hid hp1
      clear hp1 hp2 c1
      have S_ : PutRel p B l w (.slice ao' (l.length + 1) cap') (.int .i64 0) w' := .inl ⟨rfl, .mk HP.out O_.out B_.out (by rw [HE.out]; omega)⟩
      have SS := Lib.hid S_
      clear S_
      go_simp
      go_wp2
      go_loopw [0, 6] (fun v0 v6 wr => PutRel p B l w v0 v6 wr) (fun _ v6 _ => (intOf v6).toNat)
      case atStart => exact SS.out
      case round =>
        clear k0 k1 k2 k3 k4 k5 k6 k7 k8 k9 k10 k11 SS HE HP B_ O_
        rcases hrel with ⟨rfl, a, c, n, rfl, hn, ho, hb, hk⟩ | ⟨rfl, a, c, n, rfl, hn, ho, hb, hk⟩ | ⟨rfl, a, c, n, rfl, hn, ho, hb, hk⟩ | ⟨rfl, a, c, n, rfl, hn, ho, hb, hk⟩
        · have HN := Lib.hid hn; have HOO := Lib.hid ho; have HBB := Lib.hid hb
          clear hn ho hb hk
          go_wp2
          go_ret
          exact ⟨a, c, ret_slice (by rw [← pre_all]; exact HN.out), by rw [← pre_all]; exact HOO.out, HBB.out.1, HBB.out.2⟩
        · have hs := pre_step1 (p := p) (by omega)
          have h4 := HPL.out 1
          have hb1 : ((l ++ pre p 1).length + 1) * 1 ≤ 140737488355328 := by rw [List.length_append]; omega
          have hb2 : (l ++ pre p 1).length + 1 ≤ maxLen := by rw [List.length_append]; unfold maxLen; omega
          have hb3 : B ≤ wr.heap.size := Nat.le_trans hB hb.1.size
          have HN := Lib.hid hn; have HOO := Lib.hid ho; have HBB := Lib.hid hb; have HS1 := Lib.hid hs; have H1 := Lib.hid hb1; have H2 := Lib.hid hb2; have HK := Lib.hid hk
          clear hn ho hb hs h4 hb1 hb2 hk
          go_wp2_with (at_builtin; refine wp_push2 wr rfl _ _ 52 rfl B 5 .u8 1 Tryz.underlying52 infoU8 a c n (l ++ pre p 1) HN.out rfl _ (128 + p % 64) (by omega) _ rfl HOO.out H1.out H2.out hb3 ?_)
          intro ao2 cap2 w2 ho2 hb2 hki
          have R_ : PutAt p B l w 0 (.slice ao2 (n + 1) cap2) w2 := ⟨ao2, cap2, _, rfl, by rw [HN.out, ← HS1.out]; simp only [List.length_append, List.length_cons, List.length_nil]; omega, by rw [← HS1.out]; first | exact ho2 | (rw [← List.append_assoc]; exact ho2), ⟨HBB.out.1.trans hb2, HBB.out.2.trans hki⟩, by have := HK.out; omega⟩
          have RR := Lib.hid R_
          clear R_ ho2 hb2 hki
          go_wp2
          go_roundw
          case rel => exact .inl ⟨rfl, RR.out⟩
          case measure => simp [intOf]
        · have hs := pre_step2 (p := p) (by omega)
          have h4 := HPL.out 2
          have hb1 : ((l ++ pre p 2).length + 1) * 1 ≤ 140737488355328 := by rw [List.length_append]; omega
          have hb2 : (l ++ pre p 2).length + 1 ≤ maxLen := by rw [List.length_append]; unfold maxLen; omega
          have hb3 : B ≤ wr.heap.size := Nat.le_trans hB hb.1.size
          have HN := Lib.hid hn; have HOO := Lib.hid ho; have HBB := Lib.hid hb; have HS1 := Lib.hid hs; have H1 := Lib.hid hb1; have H2 := Lib.hid hb2; have HK := Lib.hid hk
          clear hn ho hb hs h4 hb1 hb2 hk
          go_wp2_with (at_builtin; refine wp_push2 wr rfl _ _ 52 rfl B 5 .u8 1 Tryz.underlying52 infoU8 a c n (l ++ pre p 2) HN.out rfl _ (128 + p / 64 % 64) (by omega) _ rfl HOO.out H1.out H2.out hb3 ?_)
          intro ao2 cap2 w2 ho2 hb2 hki
          have R_ : PutAt p B l w 1 (.slice ao2 (n + 1) cap2) w2 := ⟨ao2, cap2, _, rfl, by rw [HN.out, ← HS1.out]; simp only [List.length_append, List.length_cons, List.length_nil]; omega, by rw [← HS1.out]; first | exact ho2 | (rw [← List.append_assoc]; exact ho2), ⟨HBB.out.1.trans hb2, HBB.out.2.trans hki⟩, by have := HK.out; omega⟩
          have RR := Lib.hid R_
          clear R_ ho2 hb2 hki
          go_wp2
          go_roundw
          case rel => exact .inr (.inl ⟨rfl, RR.out⟩)
          case measure => simp [intOf]
        · have hs := pre_step3 (p := p) (by omega)
          have h4 := HPL.out 3
          have hb1 : ((l ++ pre p 3).length + 1) * 1 ≤ 140737488355328 := by rw [List.length_append]; omega
          have hb2 : (l ++ pre p 3).length + 1 ≤ maxLen := by rw [List.length_append]; unfold maxLen; omega
          have hb3 : B ≤ wr.heap.size := Nat.le_trans hB hb.1.size
          have HN := Lib.hid hn; have HOO := Lib.hid ho; have HBB := Lib.hid hb; have HS1 := Lib.hid hs; have H1 := Lib.hid hb1; have H2 := Lib.hid hb2; have HK := Lib.hid hk
          clear hn ho hb hs h4 hb1 hb2 hk
          go_wp2_with (at_builtin; refine wp_push2 wr rfl _ _ 52 rfl B 5 .u8 1 Tryz.underlying52 infoU8 a c n (l ++ pre p 3) HN.out rfl _ (128 + p / 4096 % 64) (by omega) _ rfl HOO.out H1.out H2.out hb3 ?_)
          intro ao2 cap2 w2 ho2 hb2 hki
          have R_ : PutAt p B l w 2 (.slice ao2 (n + 1) cap2) w2 := ⟨ao2, cap2, _, rfl, by rw [HN.out, ← HS1.out]; simp only [List.length_append, List.length_cons, List.length_nil]; omega, by rw [← HS1.out]; first | exact ho2 | (rw [← List.append_assoc]; exact ho2), ⟨HBB.out.1.trans hb2, HBB.out.2.trans hki⟩, by have := HK.out; omega⟩
          have RR := Lib.hid R_
          clear R_ ho2 hb2 hki
          go_wp2
          go_roundw
          case rel => exact .inr (.inr (.inl ⟨rfl, RR.out⟩))
          case measure => simp [intOf]
  by_cases c2 : p < 2048
  · have e1 : en p = 2 := by unfold en; rw [if_neg c1, if_pos c2]
    have HE := Lib.hid e1
    rw [e1]
    clear e1
    have q0 : IntKind.i64.wrap 1 = 1 := by decide
    have q1 := first1 c2
    have HP := Lib.hid (pre_first1 c1 c2)
    go_wp2_with fail
    go_region_law ((refine step_push _ rfl _ _ 52 rfl B 5 .u8 1 Tryz.underlying52 infoU8 ao cap l.length l rfl rfl (192 + p / 64) w.heap.size rfl (by simp) (HO.out.alloc _).drew HBY.out HL.out (by simp; omega) ?_; intro ao' cap' w' hp1 hp2 hp3))
    all_goals
      have B_ := Lib.hid (And.intro ((((Below.refl B w).alloc hB _).drew).trans hp2) ((KI.ofBelow (((Below.refl _ _).alloc (Nat.le_refl _) _).drew)).trans ((HO.out.alloc _).drew.ki hp3)))
      clear q0 q1 hp3
      have O_ := Lib.hid hp1
      clear hp1 hp2 c1 c2
      have S_ : PutRel p B l w (.slice ao' (l.length + 1) cap') (.int .i64 6) w' := .inr (.inl ⟨rfl, .mk HP.out O_.out B_.out (by rw [HE.out]; omega)⟩)
      have SS := Lib.hid S_
      clear S_
      go_simp
      go_wp2
      go_loopw [0, 6] (fun v0 v6 wr => PutRel p B l w v0 v6 wr) (fun _ v6 _ => (intOf v6).toNat)
      case atStart => exact SS.out
      case round =>
        clear k0 k1 k2 k3 k4 k5 k6 k7 k8 k9 k10 k11 SS HE HP B_ O_
        rcases hrel with ⟨rfl, a, c, n, rfl, hn, ho, hb, hk⟩ | ⟨rfl, a, c, n, rfl, hn, ho, hb, hk⟩ | ⟨rfl, a, c, n, rfl, hn, ho, hb, hk⟩ | ⟨rfl, a, c, n, rfl, hn, ho, hb, hk⟩
        · have HN := Lib.hid hn; have HOO := Lib.hid ho; have HBB := Lib.hid hb
          clear hn ho hb hk
          go_wp2
          go_ret
          exact ⟨a, c, ret_slice (by rw [← pre_all]; exact HN.out), by rw [← pre_all]; exact HOO.out, HBB.out.1, HBB.out.2⟩
        · have hs := pre_step1 (p := p) (by omega)
          have h4 := HPL.out 1
          have hb1 : ((l ++ pre p 1).length + 1) * 1 ≤ 140737488355328 := by rw [List.length_append]; omega
          have hb2 : (l ++ pre p 1).length + 1 ≤ maxLen := by rw [List.length_append]; unfold maxLen; omega
          have hb3 : B ≤ wr.heap.size := Nat.le_trans hB hb.1.size
          have HN := Lib.hid hn; have HOO := Lib.hid ho; have HBB := Lib.hid hb; have HS1 := Lib.hid hs; have H1 := Lib.hid hb1; have H2 := Lib.hid hb2; have HK := Lib.hid hk
          clear hn ho hb hs h4 hb1 hb2 hk
          go_wp2_with (at_builtin; refine wp_push2 wr rfl _ _ 52 rfl B 5 .u8 1 Tryz.underlying52 infoU8 a c n (l ++ pre p 1) HN.out rfl _ (128 + p % 64) (by omega) _ rfl HOO.out H1.out H2.out hb3 ?_)
          intro ao2 cap2 w2 ho2 hb2 hki
          have R_ : PutAt p B l w 0 (.slice ao2 (n + 1) cap2) w2 := ⟨ao2, cap2, _, rfl, by rw [HN.out, ← HS1.out]; simp only [List.length_append, List.length_cons, List.length_nil]; omega, by rw [← HS1.out]; first | exact ho2 | (rw [← List.append_assoc]; exact ho2), ⟨HBB.out.1.trans hb2, HBB.out.2.trans hki⟩, by have := HK.out; omega⟩
          have RR := Lib.hid R_
          clear R_ ho2 hb2 hki
          go_wp2
          go_roundw
          case rel => exact .inl ⟨rfl, RR.out⟩
          case measure => simp [intOf]
        · have hs := pre_step2 (p := p) (by omega)
          have h4 := HPL.out 2
          have hb1 : ((l ++ pre p 2).length + 1) * 1 ≤ 140737488355328 := by rw [List.length_append]; omega
          have hb2 : (l ++ pre p 2).length + 1 ≤ maxLen := by rw [List.length_append]; unfold maxLen; omega
          have hb3 : B ≤ wr.heap.size := Nat.le_trans hB hb.1.size
          have HN := Lib.hid hn; have HOO := Lib.hid ho; have HBB := Lib.hid hb; have HS1 := Lib.hid hs; have H1 := Lib.hid hb1; have H2 := Lib.hid hb2; have HK := Lib.hid hk
          clear hn ho hb hs h4 hb1 hb2 hk
          go_wp2_with (at_builtin; refine wp_push2 wr rfl _ _ 52 rfl B 5 .u8 1 Tryz.underlying52 infoU8 a c n (l ++ pre p 2) HN.out rfl _ (128 + p / 64 % 64) (by omega) _ rfl HOO.out H1.out H2.out hb3 ?_)
          intro ao2 cap2 w2 ho2 hb2 hki
          have R_ : PutAt p B l w 1 (.slice ao2 (n + 1) cap2) w2 := ⟨ao2, cap2, _, rfl, by rw [HN.out, ← HS1.out]; simp only [List.length_append, List.length_cons, List.length_nil]; omega, by rw [← HS1.out]; first | exact ho2 | (rw [← List.append_assoc]; exact ho2), ⟨HBB.out.1.trans hb2, HBB.out.2.trans hki⟩, by have := HK.out; omega⟩
          have RR := Lib.hid R_
          clear R_ ho2 hb2 hki
          go_wp2
          go_roundw
          case rel => exact .inr (.inl ⟨rfl, RR.out⟩)
          case measure => simp [intOf]
        · have hs := pre_step3 (p := p) (by omega)
          have h4 := HPL.out 3
          have hb1 : ((l ++ pre p 3).length + 1) * 1 ≤ 140737488355328 := by rw [List.length_append]; omega
          have hb2 : (l ++ pre p 3).length + 1 ≤ maxLen := by rw [List.length_append]; unfold maxLen; omega
          have hb3 : B ≤ wr.heap.size := Nat.le_trans hB hb.1.size
          have HN := Lib.hid hn; have HOO := Lib.hid ho; have HBB := Lib.hid hb; have HS1 := Lib.hid hs; have H1 := Lib.hid hb1; have H2 := Lib.hid hb2; have HK := Lib.hid hk
          clear hn ho hb hs h4 hb1 hb2 hk
          go_wp2_with (at_builtin; refine wp_push2 wr rfl _ _ 52 rfl B 5 .u8 1 Tryz.underlying52 infoU8 a c n (l ++ pre p 3) HN.out rfl _ (128 + p / 4096 % 64) (by omega) _ rfl HOO.out H1.out H2.out hb3 ?_)
          intro ao2 cap2 w2 ho2 hb2 hki
          have R_ : PutAt p B l w 2 (.slice ao2 (n + 1) cap2) w2 := ⟨ao2, cap2, _, rfl, by rw [HN.out, ← HS1.out]; simp only [List.length_append, List.length_cons, List.length_nil]; omega, by rw [← HS1.out]; first | exact ho2 | (rw [← List.append_assoc]; exact ho2), ⟨HBB.out.1.trans hb2, HBB.out.2.trans hki⟩, by have := HK.out; omega⟩
          have RR := Lib.hid R_
          clear R_ ho2 hb2 hki
          go_wp2
          go_roundw
          case rel => exact .inr (.inr (.inl ⟨rfl, RR.out⟩))
          case measure => simp [intOf]
  by_cases c3 : p < 65536
  · have e1 : en p = 3 := by unfold en; rw [if_neg c1, if_neg c2, if_pos c3]
    have HE := Lib.hid e1
    rw [e1]
    clear e1
    have q0 : IntKind.i64.wrap 2 = 2 := by decide
    have q1 := first2 c3
    have HP := Lib.hid (pre_first2 c2 c3)
    go_wp2_with fail
    go_region_law ((refine step_push _ rfl _ _ 52 rfl B 5 .u8 1 Tryz.underlying52 infoU8 ao cap l.length l rfl rfl (224 + p / 4096) w.heap.size rfl (by simp) (HO.out.alloc _).drew HBY.out HL.out (by simp; omega) ?_; intro ao' cap' w' hp1 hp2 hp3))
    all_goals
      have B_ := Lib.hid (And.intro ((((Below.refl B w).alloc hB _).drew).trans hp2) ((KI.ofBelow (((Below.refl _ _).alloc (Nat.le_refl _) _).drew)).trans ((HO.out.alloc _).drew.ki hp3)))
      clear q0 q1 hp3
      have O_ := Lib.hid hp1
      clear hp1 hp2 c1 c2 c3
      have S_ : PutRel p B l w (.slice ao' (l.length + 1) cap') (.int .i64 12) w' := .inr (.inr (.inl ⟨rfl, .mk HP.out O_.out B_.out (by rw [HE.out]; omega)⟩))
      have SS := Lib.hid S_
      clear S_
      go_simp
      go_wp2
      go_loopw [0, 6] (fun v0 v6 wr => PutRel p B l w v0 v6 wr) (fun _ v6 _ => (intOf v6).toNat)
      case atStart => exact SS.out
      case round =>
        clear k0 k1 k2 k3 k4 k5 k6 k7 k8 k9 k10 k11 SS HE HP B_ O_
        rcases hrel with ⟨rfl, a, c, n, rfl, hn, ho, hb, hk⟩ | ⟨rfl, a, c, n, rfl, hn, ho, hb, hk⟩ | ⟨rfl, a, c, n, rfl, hn, ho, hb, hk⟩ | ⟨rfl, a, c, n, rfl, hn, ho, hb, hk⟩
        · have HN := Lib.hid hn; have HOO := Lib.hid ho; have HBB := Lib.hid hb
          clear hn ho hb hk
          go_wp2
          go_ret
          exact ⟨a, c, ret_slice (by rw [← pre_all]; exact HN.out), by rw [← pre_all]; exact HOO.out, HBB.out.1, HBB.out.2⟩
        · have hs := pre_step1 (p := p) (by omega)
          have h4 := HPL.out 1
          have hb1 : ((l ++ pre p 1).length + 1) * 1 ≤ 140737488355328 := by rw [List.length_append]; omega
          have hb2 : (l ++ pre p 1).length + 1 ≤ maxLen := by rw [List.length_append]; unfold maxLen; omega
          have hb3 : B ≤ wr.heap.size := Nat.le_trans hB hb.1.size
          have HN := Lib.hid hn; have HOO := Lib.hid ho; have HBB := Lib.hid hb; have HS1 := Lib.hid hs; have H1 := Lib.hid hb1; have H2 := Lib.hid hb2; have HK := Lib.hid hk
          clear hn ho hb hs h4 hb1 hb2 hk
          go_wp2_with (at_builtin; refine wp_push2 wr rfl _ _ 52 rfl B 5 .u8 1 Tryz.underlying52 infoU8 a c n (l ++ pre p 1) HN.out rfl _ (128 + p % 64) (by omega) _ rfl HOO.out H1.out H2.out hb3 ?_)
          intro ao2 cap2 w2 ho2 hb2 hki
          have R_ : PutAt p B l w 0 (.slice ao2 (n + 1) cap2) w2 := ⟨ao2, cap2, _, rfl, by rw [HN.out, ← HS1.out]; simp only [List.length_append, List.length_cons, List.length_nil]; omega, by rw [← HS1.out]; first | exact ho2 | (rw [← List.append_assoc]; exact ho2), ⟨HBB.out.1.trans hb2, HBB.out.2.trans hki⟩, by have := HK.out; omega⟩
          have RR := Lib.hid R_
          clear R_ ho2 hb2 hki
          go_wp2
          go_roundw
          case rel => exact .inl ⟨rfl, RR.out⟩
          case measure => simp [intOf]
        · have hs := pre_step2 (p := p) (by omega)
          have h4 := HPL.out 2
          have hb1 : ((l ++ pre p 2).length + 1) * 1 ≤ 140737488355328 := by rw [List.length_append]; omega
          have hb2 : (l ++ pre p 2).length + 1 ≤ maxLen := by rw [List.length_append]; unfold maxLen; omega
          have hb3 : B ≤ wr.heap.size := Nat.le_trans hB hb.1.size
          have HN := Lib.hid hn; have HOO := Lib.hid ho; have HBB := Lib.hid hb; have HS1 := Lib.hid hs; have H1 := Lib.hid hb1; have H2 := Lib.hid hb2; have HK := Lib.hid hk
          clear hn ho hb hs h4 hb1 hb2 hk
          go_wp2_with (at_builtin; refine wp_push2 wr rfl _ _ 52 rfl B 5 .u8 1 Tryz.underlying52 infoU8 a c n (l ++ pre p 2) HN.out rfl _ (128 + p / 64 % 64) (by omega) _ rfl HOO.out H1.out H2.out hb3 ?_)
          intro ao2 cap2 w2 ho2 hb2 hki
          have R_ : PutAt p B l w 1 (.slice ao2 (n + 1) cap2) w2 := ⟨ao2, cap2, _, rfl, by rw [HN.out, ← HS1.out]; simp only [List.length_append, List.length_cons, List.length_nil]; omega, by rw [← HS1.out]; first | exact ho2 | (rw [← List.append_assoc]; exact ho2), ⟨HBB.out.1.trans hb2, HBB.out.2.trans hki⟩, by have := HK.out; omega⟩
          have RR := Lib.hid R_
          clear R_ ho2 hb2 hki
          go_wp2
          go_roundw
          case rel => exact .inr (.inl ⟨rfl, RR.out⟩)
          case measure => simp [intOf]
        · have hs := pre_step3 (p := p) (by omega)
          have h4 := HPL.out 3
          have hb1 : ((l ++ pre p 3).length + 1) * 1 ≤ 140737488355328 := by rw [List.length_append]; omega
          have hb2 : (l ++ pre p 3).length + 1 ≤ maxLen := by rw [List.length_append]; unfold maxLen; omega
          have hb3 : B ≤ wr.heap.size := Nat.le_trans hB hb.1.size
          have HN := Lib.hid hn; have HOO := Lib.hid ho; have HBB := Lib.hid hb; have HS1 := Lib.hid hs; have H1 := Lib.hid hb1; have H2 := Lib.hid hb2; have HK := Lib.hid hk
          clear hn ho hb hs h4 hb1 hb2 hk
          go_wp2_with (at_builtin; refine wp_push2 wr rfl _ _ 52 rfl B 5 .u8 1 Tryz.underlying52 infoU8 a c n (l ++ pre p 3) HN.out rfl _ (128 + p / 4096 % 64) (by omega) _ rfl HOO.out H1.out H2.out hb3 ?_)
          intro ao2 cap2 w2 ho2 hb2 hki
          have R_ : PutAt p B l w 2 (.slice ao2 (n + 1) cap2) w2 := ⟨ao2, cap2, _, rfl, by rw [HN.out, ← HS1.out]; simp only [List.length_append, List.length_cons, List.length_nil]; omega, by rw [← HS1.out]; first | exact ho2 | (rw [← List.append_assoc]; exact ho2), ⟨HBB.out.1.trans hb2, HBB.out.2.trans hki⟩, by have := HK.out; omega⟩
          have RR := Lib.hid R_
          clear R_ ho2 hb2 hki
          go_wp2
          go_roundw
          case rel => exact .inr (.inr (.inl ⟨rfl, RR.out⟩))
          case measure => simp [intOf]
  · have e1 : en p = 4 := by unfold en; rw [if_neg c1, if_neg c2, if_neg c3]
    have HE := Lib.hid e1
    rw [e1]
    clear e1
    have q0 : IntKind.i64.wrap 3 = 3 := by decide
    have q1 := first3 hp
    have HP := Lib.hid (pre_first3 c3)
    go_wp2_with fail
    go_region_law ((refine step_push _ rfl _ _ 52 rfl B 5 .u8 1 Tryz.underlying52 infoU8 ao cap l.length l rfl rfl (240 + p / 262144) w.heap.size rfl (by simp) (HO.out.alloc _).drew HBY.out HL.out (by simp; omega) ?_; intro ao' cap' w' hp1 hp2 hp3))
    all_goals
      have B_ := Lib.hid (And.intro ((((Below.refl B w).alloc hB _).drew).trans hp2) ((KI.ofBelow (((Below.refl _ _).alloc (Nat.le_refl _) _).drew)).trans ((HO.out.alloc _).drew.ki hp3)))
      clear q0 q1 hp3
      have O_ := Lib.hid hp1
      clear hp1 hp2 c1 c2 c3
      have S_ : PutRel p B l w (.slice ao' (l.length + 1) cap') (.int .i64 18) w' := .inr (.inr (.inr ⟨rfl, .mk HP.out O_.out B_.out (by rw [HE.out]; omega)⟩))
      have SS := Lib.hid S_
      clear S_
      go_simp
      go_wp2
      go_loopw [0, 6] (fun v0 v6 wr => PutRel p B l w v0 v6 wr) (fun _ v6 _ => (intOf v6).toNat)
      case atStart => exact SS.out
      case round =>
        clear k0 k1 k2 k3 k4 k5 k6 k7 k8 k9 k10 k11 SS HE HP B_ O_
        rcases hrel with ⟨rfl, a, c, n, rfl, hn, ho, hb, hk⟩ | ⟨rfl, a, c, n, rfl, hn, ho, hb, hk⟩ | ⟨rfl, a, c, n, rfl, hn, ho, hb, hk⟩ | ⟨rfl, a, c, n, rfl, hn, ho, hb, hk⟩
        · have HN := Lib.hid hn; have HOO := Lib.hid ho; have HBB := Lib.hid hb
          clear hn ho hb hk
          go_wp2
          go_ret
          exact ⟨a, c, ret_slice (by rw [← pre_all]; exact HN.out), by rw [← pre_all]; exact HOO.out, HBB.out.1, HBB.out.2⟩
        · have hs := pre_step1 (p := p) (by omega)
          have h4 := HPL.out 1
          have hb1 : ((l ++ pre p 1).length + 1) * 1 ≤ 140737488355328 := by rw [List.length_append]; omega
          have hb2 : (l ++ pre p 1).length + 1 ≤ maxLen := by rw [List.length_append]; unfold maxLen; omega
          have hb3 : B ≤ wr.heap.size := Nat.le_trans hB hb.1.size
          have HN := Lib.hid hn; have HOO := Lib.hid ho; have HBB := Lib.hid hb; have HS1 := Lib.hid hs; have H1 := Lib.hid hb1; have H2 := Lib.hid hb2; have HK := Lib.hid hk
          clear hn ho hb hs h4 hb1 hb2 hk
          go_wp2_with (at_builtin; refine wp_push2 wr rfl _ _ 52 rfl B 5 .u8 1 Tryz.underlying52 infoU8 a c n (l ++ pre p 1) HN.out rfl _ (128 + p % 64) (by omega) _ rfl HOO.out H1.out H2.out hb3 ?_)
          intro ao2 cap2 w2 ho2 hb2 hki
          have R_ : PutAt p B l w 0 (.slice ao2 (n + 1) cap2) w2 := ⟨ao2, cap2, _, rfl, by rw [HN.out, ← HS1.out]; simp only [List.length_append, List.length_cons, List.length_nil]; omega, by rw [← HS1.out]; first | exact ho2 | (rw [← List.append_assoc]; exact ho2), ⟨HBB.out.1.trans hb2, HBB.out.2.trans hki⟩, by have := HK.out; omega⟩
          have RR := Lib.hid R_
          clear R_ ho2 hb2 hki
          go_wp2
          go_roundw
          case rel => exact .inl ⟨rfl, RR.out⟩
          case measure => simp [intOf]
        · have hs := pre_step2 (p := p) (by omega)
          have h4 := HPL.out 2
          have hb1 : ((l ++ pre p 2).length + 1) * 1 ≤ 140737488355328 := by rw [List.length_append]; omega
          have hb2 : (l ++ pre p 2).length + 1 ≤ maxLen := by rw [List.length_append]; unfold maxLen; omega
          have hb3 : B ≤ wr.heap.size := Nat.le_trans hB hb.1.size
          have HN := Lib.hid hn; have HOO := Lib.hid ho; have HBB := Lib.hid hb; have HS1 := Lib.hid hs; have H1 := Lib.hid hb1; have H2 := Lib.hid hb2; have HK := Lib.hid hk
          clear hn ho hb hs h4 hb1 hb2 hk
          go_wp2_with (at_builtin; refine wp_push2 wr rfl _ _ 52 rfl B 5 .u8 1 Tryz.underlying52 infoU8 a c n (l ++ pre p 2) HN.out rfl _ (128 + p / 64 % 64) (by omega) _ rfl HOO.out H1.out H2.out hb3 ?_)
          intro ao2 cap2 w2 ho2 hb2 hki
          have R_ : PutAt p B l w 1 (.slice ao2 (n + 1) cap2) w2 := ⟨ao2, cap2, _, rfl, by rw [HN.out, ← HS1.out]; simp only [List.length_append, List.length_cons, List.length_nil]; omega, by rw [← HS1.out]; first | exact ho2 | (rw [← List.append_assoc]; exact ho2), ⟨HBB.out.1.trans hb2, HBB.out.2.trans hki⟩, by have := HK.out; omega⟩
          have RR := Lib.hid R_
          clear R_ ho2 hb2 hki
          go_wp2
          go_roundw
          case rel => exact .inr (.inl ⟨rfl, RR.out⟩)
          case measure => simp [intOf]
        · have hs := pre_step3 (p := p) (by omega)
          have h4 := HPL.out 3
          have hb1 : ((l ++ pre p 3).length + 1) * 1 ≤ 140737488355328 := by rw [List.length_append]; omega
          have hb2 : (l ++ pre p 3).length + 1 ≤ maxLen := by rw [List.length_append]; unfold maxLen; omega
          have hb3 : B ≤ wr.heap.size := Nat.le_trans hB hb.1.size
          have HN := Lib.hid hn; have HOO := Lib.hid ho; have HBB := Lib.hid hb; have HS1 := Lib.hid hs; have H1 := Lib.hid hb1; have H2 := Lib.hid hb2; have HK := Lib.hid hk
          clear hn ho hb hs h4 hb1 hb2 hk
          go_wp2_with (at_builtin; refine wp_push2 wr rfl _ _ 52 rfl B 5 .u8 1 Tryz.underlying52 infoU8 a c n (l ++ pre p 3) HN.out rfl _ (128 + p / 4096 % 64) (by omega) _ rfl HOO.out H1.out H2.out hb3 ?_)
          intro ao2 cap2 w2 ho2 hb2 hki
          have R_ : PutAt p B l w 2 (.slice ao2 (n + 1) cap2) w2 := ⟨ao2, cap2, _, rfl, by rw [HN.out, ← HS1.out]; simp only [List.length_append, List.length_cons, List.length_nil]; omega, by rw [← HS1.out]; first | exact ho2 | (rw [← List.append_assoc]; exact ho2), ⟨HBB.out.1.trans hb2, HBB.out.2.trans hki⟩, by have := HK.out; omega⟩
          have RR := Lib.hid R_
          clear R_ ho2 hb2 hki
          go_wp2
          go_roundw
          case rel => exact .inr (.inr (.inl ⟨rfl, RR.out⟩))
          case measure => simp [intOf]
end Go.Proofs.YtpgiljibicigeaaGreatDoor
