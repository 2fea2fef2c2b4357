/- QuotDivs: the law QuotDivs of the project's layer 3 answers true for every input, and leaves its arguments as they were; the library's tables hold what their initialisers lay. No other condition. -/
import Derived.Test.YtimfpgpomafflaaGreatDoorQuotDivs
import Derived.Lib.SmallJoins
namespace Go.Proofs.YtimfpgpomafflaaGreatDoor.quotDivsP
open Go.ChangeShapes Go.WideShapes Go.ChangeAt Go.RowKit LM
open Go.ChangeMaps (open_string shut_string)
open Go.Joins

theorem met {W : World} (h : laidMetH Tryz.prog Rows.quotDivsRow.laid W) : Tab W := table h

set_option maxRecDepth 100000 in
theorem contract (H : Type) (enc : TypeId × Value → H) (W : World) (base : Nat) (args : Array Value) (ds gs : List (DataW H)) (before : List MemPlace)
    (hval0 : ∀ (j : Nat) t v, Tryz.f3.params[j]? = some t → args[j]? = some v → Value.okWide Tryz.prog W .any base t v)
    (hW : DataW.Whole enc Tryz.prog Tryz.f3.params.toList Rows.quotDivsSpec.vars false W args.toList ds gs before) (hL : laidMetH Tryz.prog Rows.quotDivsRow.laid W) :
    Calls Tryz.prog 3 args W fun e W' => ∃ v, e = .returned v ∧ Rows.quotDivsSpec.post enc Tryz.prog Tryz.f3 false true false false W args v W' := by
  have hval : ∀ (j : Nat) t v, Tryz.f3.params[j]? = some t → args[j]? = some v → Value.okWide Tryz.prog W .any base t v := hval0
  have hW' := hW
  obtain ⟨p, q, hA0, hV, rfl, hfz, hnd⟩ := hW
  have hA : DataW.TrodAll enc Tryz.prog W 0 (fun _ => true) true Tryz.f3.params.toList args.toList ds p := hA0
  rw [Tryz.params3] at hA hval
  obtain ⟨v0, vs0, d0, ds0, p0, q0, hargs, rfl, rfl, h0, r0⟩ := trodAll_cons hA
  obtain ⟨v1, vs1, d1, ds1, p1, q1, rfl, rfl, rfl, h1, r1⟩ := trodAll_cons r0
  obtain ⟨rfl, rfl, rfl⟩ := trodAll_nil r1
  obtain rfl : args = #[v0, v1] := by cases args; simp_all
  obtain ⟨rfl, rfl⟩ := trodVars_none hV
  have k0 := h0
  have lt0 : ∀ x ∈ p0, x.block < W.heap.size := by obtain ⟨m, hm⟩ := k0; exact DataW.trod_lt m _ _ _ hm
  obtain ⟨b0, a0, len0, cap0, x0, rfl, w0, wx0⟩ : ∃ b a len cap x, v0 = .agg #[.bool b, .slice a len cap, .int .i64 x] ∧ IsRow W a len cap ∧ (Lit.int .i64 x).wf = true := by
    obtain ⟨c0, c1, c2, y0, y1, y2, m, rfl, _, _, hy0, hy1, hy2⟩ := open_agg3 Tryz.underlying24 (by kernel_rfl) (by kernel_rfl) (hval 0 24 v0 rfl rfl) h0
    obtain ⟨b, hb, _⟩ := DataW.trod_bool Tryz.underlying4 hy0
    obtain rfl : c0 = .bool b := by simpa using hb
    obtain ⟨x, hx, _, wx⟩ := DataW.trod_int Tryz.underlying3 hy2
    obtain rfl : c2 = .int .i64 x := by simpa using hx
    rcases open_ints Tryz.underlying22 Tryz.underlying40 (by kernel_rfl) hy1 with ⟨hcs, _⟩ | ⟨g, l, c, zs, hcs, _, hl, hm, hz, _, hcell, hwz⟩
    · obtain rfl : c1 = .slice none 0 0 := by simpa using hcs
      exact ⟨b, none, 0, 0, x, rfl, rowNil W, wx⟩
    · obtain rfl : c1 = .slice (some g) l c := by simpa using hcs
      exact ⟨b, some g, l, c, x, rfl, rowOf hl hm (by simpa using hz) hcell hwz, wx⟩
  have k1 := h1
  have lt1 : ∀ x ∈ p1, x.block < W.heap.size := by obtain ⟨m, hm⟩ := k1; exact DataW.trod_lt m _ _ _ hm
  obtain ⟨b1, a1, len1, cap1, x1, rfl, w1, wx1⟩ : ∃ b a len cap x, v1 = .agg #[.bool b, .slice a len cap, .int .i64 x] ∧ IsRow W a len cap ∧ (Lit.int .i64 x).wf = true := by
    obtain ⟨c0, c1, c2, y0, y1, y2, m, rfl, _, _, hy0, hy1, hy2⟩ := open_agg3 Tryz.underlying24 (by kernel_rfl) (by kernel_rfl) (hval 1 24 v1 rfl rfl) h1
    obtain ⟨b, hb, _⟩ := DataW.trod_bool Tryz.underlying4 hy0
    obtain rfl : c0 = .bool b := by simpa using hb
    obtain ⟨x, hx, _, wx⟩ := DataW.trod_int Tryz.underlying3 hy2
    obtain rfl : c2 = .int .i64 x := by simpa using hx
    rcases open_ints Tryz.underlying22 Tryz.underlying40 (by kernel_rfl) hy1 with ⟨hcs, _⟩ | ⟨g, l, c, zs, hcs, _, hl, hm, hz, _, hcell, hwz⟩
    · obtain rfl : c1 = .slice none 0 0 := by simpa using hcs
      exact ⟨b, none, 0, 0, x, rfl, rowNil W, wx⟩
    · obtain rfl : c1 = .slice (some g) l c := by simpa using hcs
      exact ⟨b, some g, l, c, x, rfl, rowOf hl hm (by simpa using hz) hcell hwz, wx⟩
  clear hA0 hval0
  refine (divs_walk W (met hL) w0 wx0 w1 wx1).mono fun e W' ⟨he, bel⟩ => ?_
  subst he
  exact ⟨_, rfl, _, _, _, [], _, [], hW', trodAll_mk1 (shut_bool Tryz.underlying4 _), (trodAll_cons_mk (Below.trod laidOut (by kernel_rfl) (of_decide_eq_true (by kernel_rfl)) k0 bel lt0) (trodAll_cons_mk (Below.trod laidOut (by kernel_rfl) (of_decide_eq_true (by kernel_rfl)) k1 bel lt1) trodAll_mk0)), rfl, bel.frame _, fun h => by cases h⟩

theorem laid_met (os : Os) : laidMet Tryz.prog Rows.quotDivsRow.laid ((laidWorld os).forCall (fun _ _ => 0) ⟨#[], #[.agg #[.bool false, .slice none 0 0, .int .i64 0], .agg #[.bool false, .slice none 0 0, .int .i64 0]], []⟩).memory :=
  laidMet_of_run' 8 (by kernel_rfl) (by kernel_rfl)
theorem reads (os : Os) {H : Type} (enc : TypeId × Value → H) : ∃ places, DataW.whole enc Tryz.prog ((laidWorld os).forCall (fun _ _ => 0) ⟨#[], #[.agg #[.bool false, .slice none 0 0, .int .i64 0], .agg #[.bool false, .slice none 0 0, .int .i64 0]], []⟩).memory Tryz.f3.params.toList Rows.quotDivsSpec.vars false (#[.agg #[.bool false, .slice none 0 0, .int .i64 0], .agg #[.bool false, .slice none 0 0, .int .i64 0]] : Array Value).toList 8 = some ([.agg [.lit (.bool false), .nil, .lit (.int .i64 0)], .agg [.lit (.bool false), .nil, .lit (.int .i64 0)]], [], places) :=
  ⟨[], by kernel_rfl⟩

set_option maxRecDepth 100000 in
theorem lifted (os : Os) (started : os.Started) (H : Type) (enc : TypeId × Value → H) (F : Stop.Interp) :
    ReturnsInHanded {} Tryz.checked os 3 .any ((OpenSpec.ofChange Rows.quotDivsSpec).preRow enc Tryz.prog Tryz.f3 Rows.quotDivsRow.domain false Rows.quotDivsRow.laid) (((OpenSpec.ofChange Rows.quotDivsSpec).at F).post enc Tryz.prog Tryz.f3 false true false false) := by
  obtain ⟨places, hx⟩ := reads os enc
  refine returnsInHanded_of_row (C := Tryz.checked) (s := OpenSpec.ofChange Rows.quotDivsSpec) own started (by kernel_rfl) Tryz.func3
    (witness_row_at (enc := enc) (C := Tryz.checked) false (laidWorld os) #[.agg #[.bool false, .slice none 0 0, .int .i64 0], .agg #[.bool false, .slice none 0 0, .int .i64 0]] rfl (by kernel_rfl) (by kernel_rfl) (by kernel_rfl)
      (OpenSpec.preRow_of_cond 8 hx (by kernel_rfl) (fun k hk => by cases hk) (by kernel_rfl) (laid_met os))) ?_
  intro W base args ds gs before hval hW _ _ _ hL _ _
  exact contract H enc W base args ds gs before hval hW hL

theorem said : Rows.QuotDivsSaid :=
  OpenClaim.holds_of_cond 3 Tryz.f3 rfl rfl rfl rfl rfl rfl rfl ⟨rfl, rfl, rfl, rfl, rfl⟩ rfl rfl rfl rfl rfl (by kernel_rfl) Tryz.func3 (by kernel_rfl)
    (of_decide_eq_true (by kernel_rfl)) (by unfold Func.isWrapper; first | (rw [if_pos (by decide +kernel)]; kernel_rfl) | (rw [if_neg (by decide +kernel)]; exact ⟨rfl, rfl⟩))
    (fun os started H enc _ F => by rw [OpenClaim.pre_eq_preRow]; exact lifted os started H enc F)

/-- no parameter wants a stand-in -/
theorem plain (f : FuncId) (fn : Func) (hf : Tryz.pinned.checked.prog.funcNamed "lorgnette/lorgnettelaw03.QuotDivs" = some f) (hfn : Tryz.pinned.checked.prog.funcs[f]? = some fn) :
    false = Tryz.pinned.checked.prog.looks [] ∧ ∀ (j : Nat) t, fn.params[j]? = some t → Tryz.pinned.checked.prog.wantsStandIn t = false := by
  obtain rfl : f = 3 := Option.some.inj ((show Tryz.prog.funcNamed "lorgnette/lorgnettelaw03.QuotDivs" = some 3 by kernel_rfl).symm.trans hf) |>.symm
  obtain rfl : fn = Tryz.f3 := (Option.some.inj (Tryz.func3.symm.trans hfn)).symm
  refine ⟨by kernel_rfl, fun j t ht => ?_⟩
  rw [Tryz.params3] at ht
  have hm := Array.mem_of_getElem? ht
  simp at hm
  subst hm
  exact (show Tryz.prog.wantsStandIn 24 = false by kernel_rfl)

/-- the card -/
theorem card : Rows.QuotDivsCardSaid :=
  Claim7.holds_tied_plain_at .later [] _ _ _ _ said (fun _ h => by cases h) (by kernel_rfl) (fun _ h => by cases h) quotDivs_row_tie rfl ⟨rfl, rfl⟩ (by kernel_rfl) rfl plain (by kernel_rfl)
end Go.Proofs.YtimfpgpomafflaaGreatDoor.quotDivsP
namespace Go.Proofs.YtimfpgpomafflaaGreatDoor
theorem quotDivs_card : Rows.QuotDivsCardSaid := quotDivsP.card
end Go.Proofs.YtimfpgpomafflaaGreatDoor
