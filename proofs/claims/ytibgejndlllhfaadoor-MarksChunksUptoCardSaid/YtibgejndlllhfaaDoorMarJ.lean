/- Pieces joined: the document's Join. -/
import Derived.Test.YtibgejndlllhfaaDoorMarF
import Derived.Laws.AppendOwnNone
namespace Go.Proofs.YtibgejndlllhfaaDoor
open Go.RowKit BM

theorem infoU8 : (Tryd.prog.info? 5).map (fun i => (i.zero, i.size, i.bytes)) = some (some (.int .u8 0), 1, 1) := by kernel_rfl
/-- 'append(l, m...)', l and m the call's own, m elsewhere -/
theorem wp_join {P : Program} {ops : Array Oper} {rest : List Oper} {o : Oper} {a : Act} {Q : Exit → Act → World → Prop} (w : World) (hg : o.guard = none) (s x : Operand) (t : TypeId)
    (hop : o.op = Op.call { callee := Callee.builtin Builtin.append, args := #[s, x], argTypes := #[t, t] })
    (B : Nat) (e : TypeId) (k : IntKind) (bytes : Nat) (hu : P.underlying t = some (.slice e)) (hinfo : (P.info? e).map (fun i => (i.zero, i.size, i.bytes)) = some (some (.int k 0), 1, bytes))
    (ao am : Option Addr) (cap cm n q : Nat) (l m : List Nat) (hn : n = l.length) (hq : q = m.length) (hs : a.eval s = .slice ao n cap) (hx : a.eval x = .slice am q cm)
    (hown : Own w B e k ao cap l) (hm : Rd w k am m) (hm0 : am = none → m = [] ∧ cm = 0) (hbytes : (l.length + m.length) * bytes ≤ 140737488355328) (hlen : l.length + m.length ≤ maxLen) (hB : B ≤ w.heap.size)
    (hK : ∀ ao' cap' w', Own w' B e k ao' cap' (l ++ m) → Below B w w' → w.grownBy w' (Value.slice ao n cap).ownBlock → wpList P ops Q rest (a.put o.dst (.slice ao' (n + q) cap')) w') :
    wpList P ops Q (o :: rest) a w := by
  subst hn hq
  obtain ⟨i, hi, hz0, hz1, hz2⟩ := info_parts hinfo
  have hown' : w.ownsRow B e 1 (.slice ao l.length cap) l.length (cs k l) := hown
  cases am with
  | none =>
    obtain ⟨rfl, rfl⟩ := hm0 rfl
    refine wpList_append_own_none hg s x t hop B e i 1 hu hi _ _ _ hs hown' (by simpa using hx) ?_
    have := hK ao cap w (by simpa using hown) (Below.refl _ _) (gb_refl _ _)
    simpa using this
  | some ad =>
    have hnews : ∀ j u, (cs k m)[j]? = some u → w.cell? (ad.add j) = some u := by
      intro j u hj
      have hjl : j < m.length := by have := (List.getElem?_eq_some_iff.1 hj).1; rwa [cs_length] at this
      obtain ⟨b, off, e1, hc⟩ := hm j hjl
      rw [cs_get hjl] at hj
      simp only [Option.some.injEq] at e1 hj
      subst e1
      rw [addP, hc, hj]
    refine wpList_append_own _ hg s x t hop B e i (.int k 0) 1 bytes hu hi hz0 hz1 hz2 rfl (by decide) _ _ _ hs hown' ad m.length cm (cs k m) hx (by rw [cs_length, Nat.mul_one]) hnews (cs_oneCell k m) hlen hbytes hB ?_
    intro v' w' ho hgr hnil
    have hb : Below B w w' := (Below.refl B w).grown hgr hB (fun j hj => (hown'.lt j hj).1)
    have hsh : ∃ ao' cap', v' = .slice ao' (l.length + m.length) cap' := by
      rcases ho.2 with ⟨h1, h2⟩ | ⟨g, cap', cur, h1, _⟩
      · rw [h2]; exact ⟨_, _, h1⟩
      · exact ⟨_, _, h1⟩
    obtain ⟨ao', cap', rfl⟩ := hsh
    refine hK ao' cap' w' ?_ hb hgr
    unfold Own
    rw [cs_append, List.length_append]; exact ho

/-- a slice of pieces, nil ones as they are laid -/
def RdQ (w : World) (a : Option Addr) (ps : List (List Nat)) : Prop := ∀ j p, ps[j]? = some p → ∃ b off ap cp, a = some ⟨b, off, none⟩ ∧ w.cell? ⟨b, off + j, none⟩ = some (.slice ap p.length cp) ∧ p.length ≤ cp ∧ Rd w .u8 ap p ∧ (ap = none → p = [] ∧ cp = 0)
theorem RdQ.rdP {w : World} {a : Option Addr} {ps : List (List Nat)} (h : RdQ w a ps) : RdP w a ps := fun j p hj => by
  obtain ⟨b, off, ap, cp, e, hc, hcp, hr, _⟩ := h j p hj
  exact ⟨b, off, ap, cp, e, hc, hcp, hr⟩
theorem RdQ.below {w w' : World} {a : Option Addr} {ps : List (List Nat)} (h : RdQ w a ps) (hb : Below w.heap.size w w') : RdQ w' a ps := fun j p hj => by
  obtain ⟨b, off, ap, cp, e, hc, hcp, hr, hn⟩ := h j p hj
  exact ⟨b, off, ap, cp, e, cellW hb hc, hcp, hr.below hb, hn⟩
def jn (ps : List (List Nat)) (i : Nat) : List Nat := (ps.take i).flatten
theorem jn_succ {ps : List (List Nat)} {i : Nat} {p : List Nat} (h : ps[i]? = some p) : jn ps (i + 1) = jn ps i ++ p := by
  unfold jn
  rw [List.take_add_one, h]
  simp
theorem jn_le (ps : List (List Nat)) (i : Nat) : (jn ps i).length ≤ ps.flatten.length := by
  have h : ps.flatten = jn ps i ++ (ps.drop i).flatten := by unfold jn; rw [← List.flatten_append, List.take_append_drop]
  rw [h, List.length_append]; omega
theorem jn_all (ps : List (List Nat)) : jn ps ps.length = ps.flatten := by unfold jn; rw [List.take_length]
set_option maxRecDepth 100000 in
set_option maxHeartbeats 2000000 in
theorem Join_any (a : Option Addr) (cap : Nat) (ps : List (List Nat)) (w : World) (hl : ps.length ≤ 9223372036854775806) (hj : ps.flatten.length ≤ 140737488355328) (hr : RdQ w a ps) :
    Calls Tryd.prog 14 #[.slice a ps.length cap] w (fun e w' => ∃ a' c', e = .returned (.slice a' ps.flatten.length c') ∧ ps.flatten.length ≤ c' ∧ Rd w' .u8 a' ps.flatten ∧ Below w.heap.size w w') := by
  have HR := Lib.hid hr
  clear hr
  go_enter Tryd.func14, Tryd.ntmps14
  go_wp2_with fail
  go_loopw [3, 4] (fun s3 s4 wr => ∃ i ao co, i ≤ ps.length ∧ s3 = .slice ao (jn ps i).length co ∧ s4 = .int .i64 i ∧ Hid (Own wr w.heap.size 5 .u8 ao co (jn ps i)) ∧ Hid (Below w.heap.size w wr)) (fun _ s4 _ => ps.length - (intOf s4).toNat)
  case atStart => exact ⟨0, none, 0, by omega, by simp [jn], rfl, Lib.hid (by simpa [jn] using Own.nilNone w w.heap.size 5 .u8), Lib.hid (Below.refl _ _)⟩
  case round =>
    obtain ⟨i, ao, co, hi, rfl, rfl, HO, BR⟩ := hrel
    by_cases hlt : i < ps.length
    · obtain ⟨p, hp⟩ : ∃ p, ps[i]? = some p := ⟨_, List.getElem?_eq_getElem hlt⟩
      have HJ := Lib.hid (jn_succ hp)
      obtain ⟨b, off, ap, cp, rfl, hc, hcp, hrp, hn⟩ := (HR.out.below BR.out) i p hp
      have HRP := Lib.hid hrp
      have HN := Lib.hid hn
      have hle := jn_le ps (i + 1)
      rw [HJ.out, List.length_append] at hle
      clear hp hrp hn
      generalize hx : jn ps i = x at *
      have hlt2 : (i : Int) < ps.length := by omega
      have hi0 : (0 : Int) ≤ i := by omega
      have hin : (i : Int) + 1 ≤ 9223372036854775807 := by omega
      have hbz := BR.out.size
      go_wp2_with (at_builtin; refine wp_join wr rfl _ _ 22 rfl w.heap.size 5 .u8 1 Tryd.underlying22 infoU8 ao ap co cp x.length p.length x p rfl rfl rfl rfl HO.out HRP.out HN.out (by omega) (by unfold maxLen; omega) hbz ?_; intro ao' co' w' h1 h2 _; have H1 := Lib.hid h1; have H2 := Lib.hid h2; clear h1 h2)
      go_roundw
      case rel => exact ⟨i + 1, ao', co', by omega, by rw [HJ.out, List.length_append], by go_num, by rw [HJ.out]; exact H1, Lib.hid (BR.out.trans H2.out)⟩
      case measure => simp [intOf]; omega
    · have HE : Hid (i = ps.length) := Lib.hid (by omega)
      rw [HE.out, jn_all] at HO ⊢
      go_wp2
      go_ret
      exact ⟨ao, co, rfl, HO.out.cap.1, HO.out.rd, BR.out⟩
end Go.Proofs.YtibgejndlllhfaaDoor
