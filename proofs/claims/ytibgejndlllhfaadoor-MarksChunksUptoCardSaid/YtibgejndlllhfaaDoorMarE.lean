/- marks: add walked. -/
import Derived.Test.YtibgejndlllhfaaDoorMarD
import Derived.Laws.IdiomCopy
namespace Go.Proofs.YtibgejndlllhfaaDoor
open Go.RowKit BM

/-- the maker has taken t in -/
def Mt (w : World) (B b : Nat) (t : List Nat) (len : Int) : Prop := ∃ a c, MkB w b a (t.length / 64) c len (stO t false (64 * (t.length / 64))) (stI t false false (64 * (t.length / 64))) (t.drop (64 * (t.length / 64))) ∧ OwnV w B 49 7 a (t.length / 64) c (mcs (wds t (t.length / 64)))
theorem MkB.put1 {w : World} {b : Nat} {a : Option Addr} {n c : Nat} {len : Int} {o i : Bool} {l : List Nat} (h : MkB w b a n c len o i l) (len' : Int) : MkB (w.setCell ⟨b, 1, none⟩ (.int .i64 len')) b a n c len' o i l := by
  have ec : ∀ j, j ≠ 1 → (w.setCell ⟨b, 1, none⟩ (.int .i64 len')).cell? ⟨b, j, none⟩ = w.cell? ⟨b, j, none⟩ := fun j hj => World.cell?_setCell_other _ _ _ _ (by intro e; simp only [Addr.mk.injEq, true_and, and_true] at e; exact hj e.symm)
  exact ⟨MkB.ty_set h.ty 1 _, by rw [ec _ (by omega)]; exact h.c0, World.cell?_setCell_same _ _ _ h.c1, by rw [ec _ (by omega)]; exact h.c2, by rw [ec _ (by omega)]; exact h.c3, fun j hj => by rw [ec _ (by omega)]; exact h.cw j hj, by rw [ec _ (by omega)]; exact h.ch⟩
theorem MkB.ty_sets {b : Nat} : ∀ (vs : List Value) (o : Nat) {w : World}, (∃ arr, w.heap[b]? = Option.some (.cells arr 56 (0, 0)) ∧ arr.size = 69) → ∃ arr, (w.setCells b o vs).heap[b]? = Option.some (.cells arr 56 (0, 0)) ∧ arr.size = 69
  | [], _, _, h => h
  | v :: r, o, _, h => MkB.ty_sets r (o + 1) (MkB.ty_set h o v)
theorem bel_sets {B : Nat} {a : World} {b : Nat} (hb : B ≤ b) : ∀ (vs : List Value) (o : Nat) {w : World}, Below B a w → Below B a (w.setCells b o vs)
  | [], _, _, h => h
  | _ :: r, o, _, h => bel_sets hb r (o + 1) (h.setCell hb _)
theorem oth_sets (b : Nat) : ∀ (vs : List Value) (o : Nat) (w : World), Oth w (w.setCells b o vs) (some ⟨b, 0, none⟩)
  | [], _, _ => ⟨Nat.le_refl _, fun _ _ _ => rfl⟩
  | v :: r, o, w => (Oth.setCell w b o v).trans (oth_sets b r (o + 1) _) (.inl rfl)
/-- bytes copied in behind those that are held -/
theorem MkB.fill {w : World} {b : Nat} {a : Option Addr} {n c : Nat} {len : Int} {o i : Bool} {l : List Nat} (h : MkB w b a n c len o i l) (m : List Nat) (hm : l.length + m.length ≤ 64) : MkB ((w.setCells b (4 + l.length) (cs .u8 m)).setCell ⟨b, 68, none⟩ (.int .i64 (l.length + m.length))) b a n c len o i (l ++ m) := by
  have hl : (cs .u8 m).length = m.length := cs_length _ _
  have out : ∀ j, j < 4 + l.length ∨ 4 + l.length + m.length ≤ j → (w.setCells b (4 + l.length) (cs .u8 m)).cell? ⟨b, j, none⟩ = w.cell? ⟨b, j, none⟩ := fun j hj => World.cell?_setCells_out b _ _ w _ (fun _ _ => by rw [hl]; exact hj)
  have ec : ∀ j, j ≠ 68 → ((w.setCells b (4 + l.length) (cs .u8 m)).setCell ⟨b, 68, none⟩ (.int .i64 (l.length + m.length))).cell? ⟨b, j, none⟩ = (w.setCells b (4 + l.length) (cs .u8 m)).cell? ⟨b, j, none⟩ := fun j hj => World.cell?_setCell_other _ _ _ _ (by intro e; simp only [Addr.mk.injEq, true_and, and_true] at e; exact hj e.symm)
  refine ⟨MkB.ty_set (MkB.ty_sets _ _ h.ty) 68 _, by rw [ec _ (by omega), out _ (by omega)]; exact h.c0, by rw [ec _ (by omega), out _ (by omega)]; exact h.c1, by rw [ec _ (by omega), out _ (by omega)]; exact h.c2, by rw [ec _ (by omega), out _ (by omega)]; exact h.c3, fun j hj => ?_, ?_⟩
  · rw [List.length_append] at hj
    rw [ec _ (by omega)]
    by_cases c : j < l.length
    · rw [out _ (by omega), h.cw j c, List.getElem?_append_left c]
    · have := World.cell?_setCells_in b (cs .u8 m) (4 + l.length) w (fun k hk => by
        obtain ⟨v, hv⟩ := h.some (j := 4 + l.length + k) (by rw [hl] at hk; omega)
        rw [hv]; rfl) (j - l.length) (by rw [hl]; omega)
      rw [show 4 + l.length + (j - l.length) = 4 + j by omega] at this
      rw [this, List.getElem?_append_right (by omega)]
      have e2 := cs_get (k := .u8) (l := m) (j := j - l.length) (by omega)
      rw [List.getElem?_eq_getElem (by rw [hl]; omega)] at e2
      exact e2
  · have h68 : (w.setCells b (4 + l.length) (cs .u8 m)).cell? ⟨b, 68, none⟩ = Option.some (.int .i64 l.length) := by rw [out _ (by omega)]; exact h.ch
    rw [World.cell?_setCell_same _ _ _ h68, List.length_append]; rfl
section
variable {P : Program} {ops : Array Oper} {o : Oper} {a : Act} {Q : Exit → Act → World → Prop}
/-- a copy whose run is known, as one step of a region that draws -/
theorem step_copy {E : Prop} {K : Act → World → Prop} (w : World) (hg : o.guard = none) (d s : Operand) (t t' : TypeId)
    (ho : o.op = .call { callee := .builtin .copy, args := #[d, s], argTypes := #[t, t'] }) (v u : Value) (hd : a.eval d = v) (hs : a.eval s = u) {v' : Value} {w' : World}
    (hr : (Builtin.copy_ #[t, t'] o.type #[v, u]).run P w = .ok v' w') (h : K (a.put o.dst v') w') : if Region.wanted o (yielded ops a.tmps) = true then Oper.wp P o a w K Q else E := by
  have hw : Region.wanted o (yielded ops a.tmps) = true := by simp [Region.wanted, hg]
  rw [if_pos hw]
  unfold Oper.wp execOp
  simp only [ho, resolve, invoke, builtin, Sem.run_bind, Sem.run_pure, Result.andThen_ok, List.map_toArray, List.map_cons, List.map_nil, hd, hs, hr]
  exact h
end
theorem Rd.drop {w : World} {k : IntKind} {b off : Nat} {l : List Nat} (h : Rd w k (some ⟨b, off, none⟩) l) (n : Nat) : Rd w k (some ⟨b, off + n, none⟩) (l.drop n) := by
  refine Rd.mk fun j hj => ?_
  obtain ⟨b', off', e, hc⟩ := h (n + j) (by simp at hj; omega)
  simp only [Option.some.injEq, Addr.mk.injEq, and_true] at e
  obtain ⟨rfl, rfl⟩ := e
  rw [show off + n + j = off + (n + j) by omega, hc]; simp
theorem Rd.empty (w : World) (k : IntKind) (a : Option Addr) {l : List Nat} (h : l.length = 0) : Rd w k a l := fun j hj => by omega
/-- some bytes more, of one word -/
theorem Mt.less {w : World} {B b : Nat} {t m : List Nat} {len : Int} {ao : Option Addr} {c : Nat} (h : t.length % 64 + m.length < 64) (hm : MkB w b ao (t.length / 64) c len (stO t false (64 * (t.length / 64))) (stI t false false (64 * (t.length / 64))) (t.drop (64 * (t.length / 64)) ++ m)) (ho : OwnV w B 49 7 ao (t.length / 64) c (mcs (wds t (t.length / 64)))) : Mt w B b (t ++ m) len := by
  have e : (t ++ m).length / 64 = t.length / 64 := by rw [List.length_append]; omega
  have e1 : stO (t ++ m) false (64 * (t.length / 64)) = stO t false (64 * (t.length / 64)) := stO_cong fun j hj => byte_app (by omega)
  have e2 : stI (t ++ m) false false (64 * (t.length / 64)) = stI t false false (64 * (t.length / 64)) := stI_cong fun j hj => byte_app (by omega)
  refine ⟨ao, c, ?_, ?_⟩
  · rw [e, e1, e2, List.drop_append_of_le_length (by omega)]; exact hm
  · rw [e, wds_app (by omega)]; exact ho
/-- a word is full -/
theorem Mt.full {w : World} {B b : Nat} {t m : List Nat} {len : Int} {ao : Option Addr} {c : Nat} (h : t.length % 64 + m.length = 64) (hm : MkB w b ao (t.length / 64 + 1) c len (stO (t.drop (64 * (t.length / 64)) ++ m) (stO t false (64 * (t.length / 64))) 64) (stI (t.drop (64 * (t.length / 64)) ++ m) (stO t false (64 * (t.length / 64))) (stI t false false (64 * (t.length / 64))) 64) []) (ho : OwnV w B 49 7 ao (t.length / 64 + 1) c (mcs (wds t (t.length / 64) ++ [ms (t.drop (64 * (t.length / 64)) ++ m) (stO t false (64 * (t.length / 64))) (stI t false false (64 * (t.length / 64)))]))) : Mt w B b (t ++ m) len := by
  have e : (t ++ m).length / 64 = t.length / 64 + 1 := by rw [List.length_append]; omega
  have e0 : ch (t ++ m) (t.length / 64) = t.drop (64 * (t.length / 64)) ++ m := by
    unfold ch
    rw [List.drop_append_of_le_length (by omega), List.take_of_length_le (by simp; omega)]
  have e1 : stO (t ++ m) false (64 * (t.length / 64)) = stO t false (64 * (t.length / 64)) := stO_cong fun j hj => byte_app (by omega)
  have e2 : stI (t ++ m) false false (64 * (t.length / 64)) = stI t false false (64 * (t.length / 64)) := stI_cong fun j hj => byte_app (by omega)
  have e3 := ch_stO (t ++ m) (t.length / 64) (Nat.le_refl 64)
  have e4 := ch_stI (t ++ m) (t.length / 64) (Nat.le_refl 64)
  rw [e0, e1] at e3
  rw [e0, e1, e2] at e4
  have e5 : wd (t ++ m) (t.length / 64) = ms (t.drop (64 * (t.length / 64)) ++ m) (stO t false (64 * (t.length / 64))) (stI t false false (64 * (t.length / 64))) := by
    unfold wd; rw [e0, e1, e2]
  have e6 : (t ++ m).drop (64 * (t.length / 64) + 64) = [] := List.drop_eq_nil_of_le (by rw [List.length_append]; omega)
  refine ⟨ao, c, ?_, ?_⟩
  · rw [e, show 64 * (t.length / 64 + 1) = 64 * (t.length / 64) + 64 by omega, ← e3, ← e4, e6]; exact hm
  · rw [e, wds_succ, e5, wds_app (by omega)]; exact ho
theorem scan_at (B b : Nat) (a : Option Addr) (n c : Nat) (xs : List MS) (len : Int) (o i : Bool) (l : List Nat) (w : World) (hx : xs.length = n) (hB : B ≤ b) (hn : n ≤ 2600000000000) (hl : l.length = 64) (hm : MkB w b a n c len o i l) (ho : OwnV w B 49 7 a n c (mcs xs)) :
    Calls Tryd.prog 25 #[.pointer (some ⟨b, 0, none⟩)] w fun e w' => ∃ a' c', e = .returned (.tuple #[]) ∧ MkB w' b a' (n + 1) c' len (stO l o 64) (stI l o i 64) [] ∧ OwnV w' B 49 7 a' (n + 1) c' (mcs (xs ++ [ms l o i])) ∧ Below B w w' := by
  subst hx
  have h := scan_any B b a c xs len o i l w hB hn (by omega) hm ho
  unfold ResSc at h
  rw [hl, List.length_append] at h
  exact h
def ResAdd (B b : Nat) (t : List Nat) (len : Int) (w : World) (e : Ending) (w' : World) : Prop := e = .returned (.tuple #[]) ∧ Mt w' B b t len ∧ Below B w w'
set_option maxRecDepth 100000 in
set_option maxHeartbeats 4000000 in
theorem add_any (B b : Nat) (t p : List Nat) (a : Option Addr) (cap : Nat) (W0 w : World) (hB : B ≤ b) (hW : Below B W0 w) (hWB : W0.heap.size ≤ B) (hlen : t.length + p.length ≤ 140737488355328) (h : Mt w B b t t.length) (hcap : p.length ≤ cap) (hr : Rd W0 .u8 a p) :
    Calls Tryd.prog 24 #[.pointer (some ⟨b, 0, none⟩), .slice a p.length cap] w (ResAdd B b (t ++ p) (t.length + p.length : Nat) w) := by
  have HR := Lib.hid hr
  have HW := Lib.hid hW
  obtain ⟨ao, c, hm, ho⟩ := h
  have HM := Lib.hid hm
  have HO := Lib.hid ho
  obtain ⟨_, c0, c1, c2, c3, _, c6⟩ := hm
  have kf := HM.out.fz
  clear hr hW ho c0 c2 c3 c6
  go_enter Tryd.func24, Tryd.ntmps24
  go_wp2_with fail
  have S0 : Hid (Mt (w.setCell ⟨b, 1, none⟩ (.int .i64 (t.length + p.length))) B b t (t.length + p.length)) := Lib.hid ⟨ao, c, HM.out.put1 _, HO.out.oth (Oth.setCell w b 1 _) (fun g e1 e2 => HM.out.apart HO.out (by decide) (by rw [e1]; simpa using e2.symm))⟩
  have B0 : Hid (Below B w (w.setCell ⟨b, 1, none⟩ (.int .i64 (t.length + p.length)))) := Lib.hid ((Below.refl B w).setCell hB _)
  clear c1 kf HM HO
  generalize w.setCell ⟨b, 1, none⟩ (.int .i64 (t.length + p.length)) = w0 at *
  go_loopw [1] (fun s1 wr => ∃ (r u : List Nat) (ar : Option Addr) (cr : Nat), s1 = .slice ar r.length cr ∧ r.length ≤ cr ∧ Hid (p = u ++ r) ∧ Hid (Rd W0 .u8 ar r) ∧ Hid (Mt wr B b (t ++ u) (t.length + p.length)) ∧ Hid (Below B w wr)) (fun s1 _ => match s1 with | .slice _ n _ => n | _ => 0)
  case atStart => exact ⟨p, [], a, cap, rfl, hcap, Lib.hid rfl, HR, by rw [List.append_nil]; exact S0, B0⟩
  case round =>
    obtain ⟨r, u, ar, cr, rfl, hcr, HP, HRr, HMt, BR⟩ := hrel
    by_cases hr0 : r.length = 0
    · have HE : Hid (u = p) := Lib.hid (by rw [HP.out, List.eq_nil_of_length_eq_zero hr0, List.append_nil])
      have hr1 : (r.length : Int) = 0 := by omega
      go_wp2
      refine bodyPost_end (v := .tuple #[]) (by simp [results, Tryd.results24, go_sem]) rfl ?_
      rw [HE.out] at HMt
      exact ⟨rfl, by have := HMt.out; exact_mod_cast this, BR.out⟩
    · have hrp : 0 < r.length := by omega
      obtain ⟨pb, po, rfl, hcells⟩ := HRr.out.at hrp
      obtain ⟨ao2, c2, hm, ho⟩ := HMt.out
      have HPU := Lib.hid (show t ++ p = (t ++ u) ++ r by rw [HP.out, List.append_assoc])
      have htl : (t ++ u).length + r.length = t.length + p.length := by rw [HP.out]; simp; omega
      obtain ⟨t1, hT1⟩ : ∃ t1, t ++ u = t1 := ⟨_, rfl⟩
      rw [hT1] at hm ho HPU htl HMt
      have HT1 := Lib.hid hT1
      clear hT1 HMt
      have hll0 : (t1.drop (64 * (t1.length / 64))).length = t1.length % 64 := by simp; omega
      have HLS := Lib.hid (fun m lenx (aox : Option Addr) cx W h1 h2 h3 => Mt.less (w := W) (B := B) (b := b) (t := t1) (m := m) (len := lenx) (ao := aox) (c := cx) h1 h2 h3)
      have HLF := Lib.hid (fun m lenx (aox : Option Addr) cx W h1 h2 h3 => Mt.full (w := W) (B := B) (b := b) (t := t1) (m := m) (len := lenx) (ao := aox) (c := cx) h1 h2 h3)
      generalize t1.drop (64 * (t1.length / 64)) = l at *
      generalize stO t1 false (64 * (t1.length / 64)) = o1 at *
      generalize stI t1 false false (64 * (t1.length / 64)) = i1 at *
      have hll : l.length < 64 := by omega
      have HL0 := Lib.hid hll0
      have HTL := Lib.hid htl
      clear hll0 htl
      obtain ⟨n, hn⟩ : ∃ n, min r.length (64 - l.length) = n := ⟨_, rfl⟩
      have hn1 : n ≤ r.length := by omega
      have hn2 : l.length + n ≤ 64 := by omega
      have hcl : (cs .u8 (r.take n)).length = n := by rw [cs_length, List.length_take]; omega
      have HM := Lib.hid hm
      have HO := Lib.hid ho
      have HCP : Hid ((Builtin.copy_ #[22, 22] 3 #[.slice (some ⟨b, 4 + l.length, none⟩) (64 - l.length) (64 - l.length), .slice (some ⟨pb, po, none⟩) r.length cr]).run Tryd.prog wr.drew = .ok (.int .i64 n) (wr.drew.setCells b (4 + l.length) (cs .u8 (r.take n)))) := Lib.hid (by
        have h := run_copy_cells (P := Tryd.prog) wr.drew 22 22 3 5 b (4 + l.length) (64 - l.length) (64 - l.length) ⟨pb, po, none⟩ r.length cr (cs .u8 (r.take n)) Tryd.underlying22 (by kernel_rfl) (by rw [hcl, ← hn])
          (fun j v hj => by
            have hjn : j < n := by rw [← hcl]; exact (List.getElem?_eq_some_iff.1 hj).1
            rw [addP]
            have hw := hcells j (by omega)
            have hb1 := HW.out.trans BR.out
            have hbl := lt_of_cell hw
            show wr.cell? _ = _
            rw [hb1.cell (by omega), hw]
            rw [cs_get (by rw [List.length_take]; omega), getD_take hjn] at hj
            exact hj)
          (fun j hj => by
            obtain ⟨v, hv⟩ := HM.out.some (j := 4 + l.length + j) (by omega)
            show (wr.cell? _).isSome = true
            rw [hv]; rfl)
          (fun j hj => HM.out.fz _) (cs_oneCell _ _)
        rw [hcl] at h
        exact h)
      obtain ⟨_, _, _, _, _, _, c6⟩ := hm
      clear ho hcells
      have hl1 : (0 : Int) ≤ l.length := by omega
      have hl2 : (l.length : Int) ≤ 64 := by omega
      have hl3 : (l.length : Int) < 64 := by omega
      have hl4 : ¬ 64 = l.length := by omega
      go_upto_region 2 with (fail)
      go_region_law ((refine step_copy _ rfl _ _ 22 22 rfl _ _ rfl rfl HCP.out ?_))
      have c7 : (wr.drew.setCells b (4 + l.length) (cs .u8 (r.take n))).cell? ⟨b, 68, none⟩ = some (.int .i64 l.length) := by
        rw [World.cell?_setCells_out b _ _ _ _ (fun _ _ => by rw [hcl]; right; show 4 + l.length + n ≤ 68; omega)]
        exact HM.out.ch
      have f7 : ∀ j, (wr.drew.setCells b (4 + l.length) (cs .u8 (r.take n))).frozen? ⟨b, j, none⟩ = false := fun j => by rw [World.frozen?_setCells]; exact HM.out.fz j
      have htk : (r.take n).length = n := by rw [List.length_take]; omega
      have HMF := Lib.hid ((HM.out.block (w' := wr.drew) rfl).fill (r.take n) (by rw [htk]; exact hn2))
      have hap := HM.out.apart HO.out (by decide)
      have ne : ∀ g, ao2 = some ⟨g, 0, none⟩ → (some ⟨b, 0, none⟩ : Option Addr) ≠ some ⟨g, 0, none⟩ := fun g e1 e2 => hap (by rw [e1]; simpa using e2.symm)
      have HOF := Lib.hid ((HO.out.drew.oth (oth_sets b (cs .u8 (r.take n)) (4 + l.length) wr.drew) ne).oth (Oth.setCell _ b 68 (.int .i64 (l.length + (r.take n).length))) ne)
      have BRF := Lib.hid ((bel_sets hB (cs .u8 (r.take n)) (4 + l.length) BR.out.drew).setCell hB (p := ⟨b, 68, none⟩) (.int .i64 (l.length + (r.take n).length)))
      rw [htk] at HMF HOF BRF
      clear c6 hap ne HCP
      generalize wr.drew.setCells b (4 + l.length) (cs .u8 (r.take n)) = w2 at *
      have h1 : (0 : Int) ≤ n := by omega
      have h2 : (n : Int) ≤ r.length := by omega
      have h3 : (n : Int) ≤ cr := by omega
      have HRD : Hid (Rd W0 .u8 (if cr = n then some ⟨pb, po, none⟩ else some ⟨pb, po + n, none⟩) (r.drop n)) := Lib.hid (by
        by_cases e : cr = n
        · exact Rd.empty _ _ _ (by simp; omega)
        · rw [if_neg e]; exact HRr.out.drop n)
      have HPD : Hid (p = (u ++ r.take n) ++ r.drop n) := Lib.hid (by rw [List.append_assoc, List.take_append_drop]; exact HP.out)
      have HTD : Hid (t ++ (u ++ r.take n) = t1 ++ r.take n) := Lib.hid (by rw [← List.append_assoc, HT1.out])
      have hrd : (r.drop n).length = r.length - n := by simp
      have HRL := Lib.hid hrd
      have hnp : 0 < n := by omega
      by_cases hf : l.length + n = 64
      · have hf1 : (l.length : Int) + n = 64 := by omega
        have HSC := Lib.hid (scan_at B b ao2 (t1.length / 64) c2 (wds t1 (t1.length / 64)) _ o1 i1 (l ++ r.take n) _ (wds_length _ _) hB (by have := HTL.out; omega) (by rw [List.length_append, htk]; exact hf) HMF.out HOF.out)
        rw [show (l.length : Int) + (n : Int) = 64 from hf1] at HSC
        have HFU := Lib.hid (fun lenx aox cx W h2 h3 => HLF.out (r.take n) lenx aox cx W (by rw [← HL0.out, htk]; omega) h2 h3)
        have BRF2 := BRF
        rw [show (l.length : Int) + (n : Int) = 64 from hf1] at BRF2
        clear HMF HOF hrd htk hcl HLS HLF
        by_cases hcn : cr = n
        · rw [if_pos hcn] at HRD
          go_wp2_with (refine HSC.out.mono ?_; rintro e w4 ⟨a4, c4, rfl, hm4, ho4, hb4⟩; have HMt4 := Lib.hid (HFU.out _ a4 c4 w4 hm4 ho4); have B4 := Lib.hid (BRF2.out.trans hb4); clear hm4 ho4 hb4)
          refine ⟨⟨r.drop n, u ++ r.take n, _, _, by rw [HRL.out], by rw [HRL.out]; omega, HPD, HRD, by rw [HTD.out]; exact HMt4, B4⟩, ?_⟩
          show r.length - n < r.length
          omega
        · rw [if_neg hcn] at HRD
          go_wp2_with (refine HSC.out.mono ?_; rintro e w4 ⟨a4, c4, rfl, hm4, ho4, hb4⟩; have HMt4 := Lib.hid (HFU.out _ a4 c4 w4 hm4 ho4); have B4 := Lib.hid (BRF2.out.trans hb4); clear hm4 ho4 hb4)
          refine ⟨⟨r.drop n, u ++ r.take n, _, _, by rw [HRL.out], by rw [HRL.out]; omega, HPD, HRD, by rw [HTD.out]; exact HMt4, B4⟩, ?_⟩
          show r.length - n < r.length
          omega
      · have hf1 : ¬ (l.length : Int) + n = 64 := by omega
        have HMt2 := Lib.hid (HLS.out (r.take n) _ ao2 c2 _ (by rw [← HL0.out, htk]; omega) HMF.out HOF.out)
        clear HMF HOF hrd htk hcl
        by_cases hcn : cr = n
        · rw [if_pos hcn] at HRD
          go_wp2
          refine ⟨⟨r.drop n, u ++ r.take n, _, _, by rw [HRL.out], by rw [HRL.out]; omega, HPD, HRD, by rw [HTD.out]; exact HMt2, BRF⟩, ?_⟩
          show r.length - n < r.length
          omega
        · rw [if_neg hcn] at HRD
          go_wp2
          refine ⟨⟨r.drop n, u ++ r.take n, _, _, by rw [HRL.out], by rw [HRL.out]; omega, HPD, HRD, by rw [HTD.out]; exact HMt2, BRF⟩, ?_⟩
          show r.length - n < r.length
          omega
end Go.Proofs.YtibgejndlllhfaaDoor
