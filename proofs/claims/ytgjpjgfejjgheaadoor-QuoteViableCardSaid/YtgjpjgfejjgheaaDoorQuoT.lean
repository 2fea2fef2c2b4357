/- quote: Is walked. -/
import Derived.Test.YtgjpjgfejjgheaaDoorQuoR
namespace Go.Proofs.YtgjpjgfejjgheaaDoor
open Go.RowKit UM QM

attribute [local go_sem] Oper.semAt_some
theorem putCell {W : World} {p : Addr} {v : Value} (h : W.cell? p = some v) {D : Nat} (o : Obj) (hD : p.block < D) : (W.putObj D o).cell? p = some v := ((putBelow W D D o (Nat.le_refl _)).cell hD).trans h
theorem koN (W : World) (n : Nat) : KeepsOthers W (W.drewN n) := ⟨Nat.le_refl _, fun _ _ h _ => h⟩
theorem cell_new {W : World} {C : Array Value} {t : TypeId} {b j : Nat} (hb : b = W.heap.size) : (W.alloc (.cells C t)).cell? ⟨b, j, none⟩ = C[j]? := by subst hb; exact World.cell?_alloc_mark W C t (0, 0) j
theorem cell_old {W : World} {o : Obj} {p : Addr} (h : p.block < W.heap.size) : (W.alloc o).cell? p = W.cell? p := ((Below.refl W.heap.size W).alloc (Nat.le_refl _) o).cell h
theorem frz_new {W : World} {C : Array Value} {t : TypeId} {b j : Nat} (hb : b = W.heap.size) : (W.alloc (.cells C t)).frozen? ⟨b, j, none⟩ = false := by subst hb; simp
theorem frz_old {W : World} {o : Obj} {p : Addr} (h : p.block < W.heap.size) : (W.alloc o).frozen? p = W.frozen? p := ((Below.refl W.heap.size W).alloc (Nat.le_refl _) o).frozen h
set_option maxRecDepth 100000 in
set_option maxHeartbeats 4000000 in
theorem QIs_of {a : Option Addr} {cap : Nat} {l : List Nat} {key : ByteArray} {w : World} {qs : List Nat} (h : RdR l (toI qs) l.length 0) (hq : ∀ p ∈ qs, Pt p) (hl : l.length ≤ 1000000000000) (hlo : LM.Lo 256 l) (hrd : Rd w .u8 a l) (ht : Sh w) (hcp : l.length ≤ cap) (hkey : key.size ≤ 140737488351232) :
    Calls Tryd.prog 13 #[.slice a l.length cap, .string key] w fun r w' => r = .returned (.bool (decide (bl key = encL qs))) ∧ Below w.heap.size w w' := by
  have hab : ∀ b, a = some b → 0 < l.length → b.block < w.heap.size + 1 := by
    intro b hb hp
    obtain ⟨b', off, e, hc⟩ := hrd 0 hp
    rw [hb] at e; cases e
    have := lt_of_cell hc
    simp only at this ⊢
    omega
  have hs : 0 < w.heap.size := lt_of_cell ht.1
  have HAB := Lib.hid hab; have HT := Lib.hid ht; have HIN := Lib.hid (fun hp b off e => hrd.slot hp b off e); have HRR := Lib.hid h; have HQ := Lib.hid hq; have HKZ := Lib.hid hkey
  obtain ⟨V, hV⟩ : ∃ V, V = ((w.alloc (.cells #[.bool false] 4)).alloc (.cells #[.slice a l.length cap, .int .i64 0, .int .i64 0] 42)).alloc (.cells #[.string key] 9) := ⟨_, rfl⟩
  have zV : V.heap.size = w.heap.size + 3 := by rw [hV]; simp
  have bV : Below w.heap.size w V := by rw [hV]; exact (((Below.refl _ _).alloc (Nat.le_refl _) _).alloc (by simp) _).alloc (by simp; omega) _
  have c1 : ∀ j, V.cell? ⟨w.heap.size + 1, j, none⟩ = (#[Value.slice a l.length cap, .int .i64 0, .int .i64 0] : Array Value)[j]? := fun j => by rw [hV, cell_old (by simp), cell_new (by simp)]
  have rV : RB V (w.heap.size + 1) a cap l 0 0 := by
    refine ⟨by rw [c1]; rfl, by rw [c1]; rfl, by rw [c1]; rfl, fun j => by rw [hV, frz_old (by simp), frz_new (by simp)], hrd.below bV, ?_, Nat.zero_le _, Nat.le_trans hl (by decide), hlo, hcp, ht.below bV, by omega⟩
    intro hp b off e e2
    have := hrd.slot hp b off e
    omega
  have cV : V.cell? ⟨w.heap.size + 2, 0, none⟩ = some (.string key) := by rw [hV, cell_new (by simp)]; rfl
  have fV : V.frozen? ⟨w.heap.size + 2, 0, none⟩ = false := by rw [hV, frz_new (by simp)]
  have cV0 : V.cell? ⟨w.heap.size, 0, none⟩ = some (.bool false) := by rw [hV, cell_old (by simp; omega), cell_old (by simp), cell_new rfl]; rfl
  have fV0 : V.frozen? ⟨w.heap.size, 0, none⟩ = false := by rw [hV, frz_old (by simp; omega), frz_old (by simp), frz_new rfl]
  have iV : IIs w key [] V := ⟨⟨[], key, by simp, rfl, rfl, cV, fV, cV0, fV0⟩, bV⟩
  refine callsIn_wide.1 (callsIn_of_wp_marks (n := 3) Tryd.func13 rfl trivial ?_ rfl)
  refine wpIn_wide.2 ?_
  simp only [Tryd.ntmps13, List.size_toArray, List.length_cons, List.length_nil, Nat.reduceAdd, Nat.reduceSub, Array.replicate_succ, Array.replicate_zero, List.push_toArray, List.append_toArray, List.nil_append, List.cons_append]
  have HV := Lib.hid hV; have HRV := Lib.hid rV; have HIV := Lib.hid iV
  clear hV rV iV cV fV bV hab c1 cV0 fV0 h hq hkey
  go_wp2_with fail
  rw [← HV.out]
  refine (wpIn_wide (n := 3)).1 ?_
  refine range_st (n := 3) rfl (by omega) (gf := 22) (fa := #[.pointer (some ⟨w.heap.size + 1, 0, none⟩)]) (lb := #[]) rfl trivial (enters_of Tryd.func22 (by kernel_rfl) rfl)
    (points_gives (w.heap.size + 1) a cap l V) (fun _ => rfl)
    (fun r => HRV.out.below (((Below.refl _ _).alloc (Nat.le_refl _) _).alloc (by simp) _)) (fun A B hg => KeepsFrom.of_grownBy hg (fun j e => by cases e; omega))
    (fun A B C h1 h2 k err r => h2 k err (h1 k err r)) (fun W o o' _ _ => Kpr.of (putBelow W _ (w.heap.size + 2) o' (by omega)) (by omega) HAB.out (by omega))
    (IIs w key) (XIs w key) (by rw [zV]; exact IIs.own w key) (by rw [zV]; exact XIs.own w key) (fun s A B h hg => h.gb hg) (fun s A B h hg => h.gb hg)
    HIV.out ?a1 ?assign ?body ?done ?stop
  case assign =>
    intro l x W K hK
    gi_wp2
    exact hK
  case body =>
    rintro lp pre x W ⟨⟨p, hp, rfl⟩, hln, _⟩ ⟨⟨ps, R, hps, rfl, hk, hc, hf, hc0, hf0⟩, hb⟩
    have HB := Lib.hid hb; have HPS := Lib.hid hps
    have hRs : R.size ≤ 140737488351232 := by
      have := congrArg List.length hk
      rw [bl_len, List.length_append, bl_len] at this
      have := HKZ.out; omega
    have hD := Decode_any R W hRs (HT.out.below hb)
    unfold ResDec at hD
    have hnp : ∀ q ∈ ps ++ [p], Pt q := by
      intro q hq
      rcases List.mem_append.1 hq with h | h
      · exact hps q h
      · rw [List.mem_singleton.1 h]; exact hp
    have HNP := Lib.hid hnp
    rcases key_step hp hk with ⟨hd, hen, hk2⟩ | ⟨hd, hk2⟩
    · rw [hd] at hD
      have HD := Lib.hid ((callsIn_wide (n := 0)).2 hD)
      have HK2 := Lib.hid hk2
      have hen' : (en p : Int) ≤ (R.size : Int) := by omega
      clear hb hps hD hk hk2 hd hnp
      gi_wp2
      refine ⟨trivial, (HD.out.inRound lp).mono ?_⟩
      rintro e A ⟨rfl, n, rfl⟩
      gi_wp2
      have hB3 := (bdN (Below.refl (w.heap.size + 2) W) n).setCell (p := ⟨w.heap.size + 1 + 1, 0, none⟩) (by simp) (Value.string (R.extract (en p) R.size))
      refine ⟨((koN W n).trans (KeepsOthers.setCell _ _ _)).from _, Kpr.of hB3 (by omega) HAB.out (by omega), ⟨⟨ps ++ [p], R.extract (en p) R.size, HNP.out, by simp [toI], HK2.out, ?_, ?_, ?_, ?_⟩, HB.out.trans (hB3.mono (by omega))⟩⟩
      · exact World.cell?_setCell_same' _ _ _ (by rw [World.cell?_drewN, hc]; rfl)
      · rw [World.frozen?_setCell]; exact hf
      · rw [World.cell?_setCell_other]
        · exact hc0
        · intro e; have := congrArg Addr.block e; simp only at this; omega
      · rw [World.frozen?_setCell]; exact hf0
    · obtain ⟨q, m, sd, hqm⟩ : ∃ q m sd, dcd (bl R) = (q, m, sd) := ⟨_, _, _, rfl⟩
      rw [hqm] at hD hd
      have HD := Lib.hid ((callsIn_wide (n := 0)).2 hD)
      have HK2 := Lib.hid hk2
      clear hb hps hD hk hk2 hnp hqm
      have fin : ∀ n, KeepsFrom (w.heap.size + 3) W ((W.drewN n).setCell ⟨w.heap.size, 0, none⟩ (.bool false)) ∧ Kpr (w.heap.size + 1) a cap l W ((W.drewN n).setCell ⟨w.heap.size, 0, none⟩ (.bool false)) ∧ XIs w key (toI ps ++ [(p : Int)]) ((W.drewN n).setCell ⟨w.heap.size, 0, none⟩ (.bool false)) := by
        intro n
        refine ⟨((koN W n).trans (KeepsOthers.setCell _ _ _)).from _, fun k err r => RB.gbFar (A := W.drewN n) (r := w.heap.size) r (gb_set (gb_refl _ _) 0 _) (by omega) (fun hp b off e => by have := HIN.out hp b off e; omega) (by omega), ⟨⟨ps ++ [p], HNP.out, by simp [toI], HK2.out, ?_, ?_⟩, HB.out.trans ((bdN (Below.refl w.heap.size W) n).setCell (p := ⟨w.heap.size, 0, none⟩) (Nat.le_refl _) _)⟩⟩
        · exact World.cell?_setCell_same' _ _ _ (by rw [World.cell?_drewN, hc0]; rfl)
        · rw [World.frozen?_setCell]; exact hf0
      have FN := Lib.hid fin
      clear fin
      cases sd
      · clear hd
        gi_wp2
        refine ⟨trivial, (HD.out.inRound lp).mono ?_⟩
        rintro e A ⟨rfl, n, rfl⟩
        gi_wp2
        exact FN.out n
      · have hne : ((q : Int) != (p : Int)) = true := by
          rcases hd with h | h
          · cases h
          · simp; simp only at h; omega
        clear hd
        gi_wp2
        refine ⟨trivial, (HD.out.inRound lp).mono ?_⟩
        rintro e A ⟨rfl, n, rfl⟩
        gi_wp2
        exact FN.out n
  case done =>
    rintro D ys W0 W r hD ⟨k, err, hfin, hrb⟩ ⟨⟨ps, R, hps, rfl, hk, hc, hf, hc0, hf0⟩, hb⟩ hW hK
    have hRB : RB W (w.heap.size + 1) a cap l k err := by rw [hW]; exact hrb.belowB (putBelow W0 _ (w.heap.size + 2) _ (by omega)) (by omega) HAB.out (by omega)
    obtain ⟨e1, e2, e3⟩ := RdR.det (RdR.of hfin) HRR.out
    have e1 := toI_inj e1
    subst e1 e2 e3
    obtain ⟨q0, q1, q2, qf, _⟩ := hRB
    clear hW hrb hfin
    have HK := Lib.hid hk; have HPS := Lib.hid hps
    clear hps hk
    have hout : ∀ v : Bool, ((W.setCell ⟨w.heap.size, 0, none⟩ (.bool v)).putObj D (.deferred none)).cell? ⟨w.heap.size, 0, none⟩ = some (.bool v) := fun v => putCell (World.cell?_setCell_same' _ _ _ (by rw [hc0]; rfl)) _ (by simp only; omega)
    have hK2 : ∀ v : Bool, (W.setCell ⟨w.heap.size, 0, none⟩ (.bool v)).heap[D]? = some (.deferred (some [])) := fun v => (KeepsOthers.setCell W ⟨w.heap.size, 0, none⟩ (.bool v)).same D _ hK rfl
    have hB2 : ∀ v : Bool, Below w.heap.size w ((W.setCell ⟨w.heap.size, 0, none⟩ (.bool v)).putObj D (.deferred none)) := fun v => (hb.setCell (p := ⟨w.heap.size, 0, none⟩) (Nat.le_refl _) _).trans (putBelow _ D _ _ (by omega))
    have HO := Lib.hid hout; have HK2 := Lib.hid hK2; have HB2 := Lib.hid hB2
    clear hout hK2 hB2
    by_cases hR : R.size = 0
    · have hE := size0 hR
      subst hE
      have hres : Hid (decide (bl key = encL ps) = true) := Lib.hid (decide_eq_true (by rw [HK.out]; show encL ps ++ [] = _; rw [List.append_nil]))
      go_wp2
      refine ⟨by simp, .inl ⟨_, _, rfl, run_takeDeferred (HK2.out _), ?_⟩⟩
      refine ⟨.bool true, by simp [results, Tryd.results13, go_sem, HO.out], ?_, HB2.out _⟩
      rw [hres.out]
    · have hR3 : R.toList.isEmpty = false := by
        rcases h : R.toList.isEmpty with _ | _
        · rfl
        · rw [List.isEmpty_iff, ByteArray.toList_eq] at h
          have : R.size = 0 := by rw [← bl_len]; unfold bl; rw [h]; rfl
          omega
      have hres : Hid (decide (bl key = encL ps) = false) := Lib.hid (decide_eq_false (by
        intro e
        rw [HK.out] at e
        have := congrArg List.length e
        rw [List.length_append, bl_len] at this
        omega))
      go_wp2
      refine ⟨by simp, .inl ⟨_, _, rfl, run_takeDeferred (HK2.out _), ?_⟩⟩
      refine ⟨.bool false, by simp [results, Tryd.results13, go_sem, HO.out], ?_, HB2.out _⟩
      rw [hres.out]
  case stop =>
    rintro D pre W0 W r hD ⟨k, hrch, hrb⟩ ⟨⟨ps, hps, rfl, hk, hc0, hf0⟩, hb⟩ hW hK
    obtain ⟨ys, hys⟩ := rch_pre hrch HRR.out
    have hno : Hid (decide (bl key = encL qs) = false) := Lib.hid (decide_eq_false (by
      intro e
      obtain ⟨l1, l2, e1, e2, _⟩ := List.map_eq_append_iff.1 (show qs.map (fun p => ((p : Nat) : Int)) = toI ps ++ ys from hys)
      have e3 := toI_inj (show toI l1 = toI ps from e2)
      refine hk (encL l2) ?_
      rw [e, e1, e3, encL_append]))
    refine wpIn_wide.2 ?_
    go_wp2
    refine ⟨by simp, .inl ⟨_, _, rfl, run_takeDeferred hK, ?_⟩⟩
    refine ⟨.bool false, by simp [results, Tryd.results13, go_sem, putCell hc0 (D := D) (.deferred none) (by simp only; omega)], ?_, hb.trans (putBelow _ D _ _ (by omega))⟩
    rw [hno.out]
end Go.Proofs.YtgjpjgfejjgheaaDoor
