/- marks: Chunks and Build walked. -/
import Derived.Test.YtibgejndlllhfaaDoorMarE
namespace Go.Proofs.YtibgejndlllhfaaDoor
open Go.RowKit BM

/-- an index answered: the words of t, and how many bytes -/
def ResIx (t : List Nat) (w : World) (e : Ending) (w' : World) : Prop :=
  ∃ a c, e = .returned (.agg #[.slice a (nw t.length) c, .int .i64 t.length]) ∧ OwnV w' w.heap.size 49 7 a (nw t.length) c (mcs (wds t (nw t.length))) ∧ Below w.heap.size w w'
/-- pieces: where each lies, and its bytes -/
def RdP (w : World) (a : Option Addr) (ps : List (List Nat)) : Prop := ∀ j p, ps[j]? = some p → ∃ b off ap cp, a = some ⟨b, off, none⟩ ∧ w.cell? ⟨b, off + j, none⟩ = some (.slice ap p.length cp) ∧ p.length ≤ cp ∧ Rd w .u8 ap p
theorem RdP.below {w w' : World} {a : Option Addr} {ps : List (List Nat)} (h : RdP w a ps) (hb : Below w.heap.size w w') : RdP w' a ps := fun j p hj => by
  obtain ⟨b, off, ap, cp, e, hc, hcp, hr⟩ := h j p hj
  exact ⟨b, off, ap, cp, e, cellW hb hc, hcp, hr.below hb⟩
set_option maxRecDepth 100000 in
theorem infoMk : (Tryd.prog.info? 56).map (fun i => i.zero) = some (some (.agg #[.slice none 0 0, .int .i64 0, .bool false, .bool false, .int .u8 0, .int .u8 0, .int .u8 0, .int .u8 0, .int .u8 0, .int .u8 0, .int .u8 0, .int .u8 0, .int .u8 0, .int .u8 0, .int .u8 0, .int .u8 0, .int .u8 0, .int .u8 0, .int .u8 0, .int .u8 0, .int .u8 0, .int .u8 0, .int .u8 0, .int .u8 0, .int .u8 0, .int .u8 0, .int .u8 0, .int .u8 0, .int .u8 0, .int .u8 0, .int .u8 0, .int .u8 0, .int .u8 0, .int .u8 0, .int .u8 0, .int .u8 0, .int .u8 0, .int .u8 0, .int .u8 0, .int .u8 0, .int .u8 0, .int .u8 0, .int .u8 0, .int .u8 0, .int .u8 0, .int .u8 0, .int .u8 0, .int .u8 0, .int .u8 0, .int .u8 0, .int .u8 0, .int .u8 0, .int .u8 0, .int .u8 0, .int .u8 0, .int .u8 0, .int .u8 0, .int .u8 0, .int .u8 0, .int .u8 0, .int .u8 0, .int .u8 0, .int .u8 0, .int .u8 0, .int .u8 0, .int .u8 0, .int .u8 0, .int .u8 0, .int .i64 0])) := by kernel_rfl
theorem zeroMk (w : World) : (zeroValue 56).run Tryd.prog w = .ok (.agg #[.slice none 0 0, .int .i64 0, .bool false, .bool false, .int .u8 0, .int .u8 0, .int .u8 0, .int .u8 0, .int .u8 0, .int .u8 0, .int .u8 0, .int .u8 0, .int .u8 0, .int .u8 0, .int .u8 0, .int .u8 0, .int .u8 0, .int .u8 0, .int .u8 0, .int .u8 0, .int .u8 0, .int .u8 0, .int .u8 0, .int .u8 0, .int .u8 0, .int .u8 0, .int .u8 0, .int .u8 0, .int .u8 0, .int .u8 0, .int .u8 0, .int .u8 0, .int .u8 0, .int .u8 0, .int .u8 0, .int .u8 0, .int .u8 0, .int .u8 0, .int .u8 0, .int .u8 0, .int .u8 0, .int .u8 0, .int .u8 0, .int .u8 0, .int .u8 0, .int .u8 0, .int .u8 0, .int .u8 0, .int .u8 0, .int .u8 0, .int .u8 0, .int .u8 0, .int .u8 0, .int .u8 0, .int .u8 0, .int .u8 0, .int .u8 0, .int .u8 0, .int .u8 0, .int .u8 0, .int .u8 0, .int .u8 0, .int .u8 0, .int .u8 0, .int .u8 0, .int .u8 0, .int .u8 0, .int .u8 0, .int .i64 0]) w := by
  cases hq : Tryd.prog.info? 56 with
  | none => have := infoMk; rw [hq] at this; cases this
  | some i =>
    have h := infoMk
    rw [hq] at h
    have hz : i.zero = some (.agg #[.slice none 0 0, .int .i64 0, .bool false, .bool false, .int .u8 0, .int .u8 0, .int .u8 0, .int .u8 0, .int .u8 0, .int .u8 0, .int .u8 0, .int .u8 0, .int .u8 0, .int .u8 0, .int .u8 0, .int .u8 0, .int .u8 0, .int .u8 0, .int .u8 0, .int .u8 0, .int .u8 0, .int .u8 0, .int .u8 0, .int .u8 0, .int .u8 0, .int .u8 0, .int .u8 0, .int .u8 0, .int .u8 0, .int .u8 0, .int .u8 0, .int .u8 0, .int .u8 0, .int .u8 0, .int .u8 0, .int .u8 0, .int .u8 0, .int .u8 0, .int .u8 0, .int .u8 0, .int .u8 0, .int .u8 0, .int .u8 0, .int .u8 0, .int .u8 0, .int .u8 0, .int .u8 0, .int .u8 0, .int .u8 0, .int .u8 0, .int .u8 0, .int .u8 0, .int .u8 0, .int .u8 0, .int .u8 0, .int .u8 0, .int .u8 0, .int .u8 0, .int .u8 0, .int .u8 0, .int .u8 0, .int .u8 0, .int .u8 0, .int .u8 0, .int .u8 0, .int .u8 0, .int .u8 0, .int .u8 0, .int .i64 0]) := by simpa using h
    simp [zeroValue, typeInfo, hq, hz]
set_option maxRecDepth 100000 in
theorem mk0 (W : World) (B : Nat) : Mt (W.alloc (.cells #[.slice none 0 0, .int .i64 0, .bool false, .bool false, .int .u8 0, .int .u8 0, .int .u8 0, .int .u8 0, .int .u8 0, .int .u8 0, .int .u8 0, .int .u8 0, .int .u8 0, .int .u8 0, .int .u8 0, .int .u8 0, .int .u8 0, .int .u8 0, .int .u8 0, .int .u8 0, .int .u8 0, .int .u8 0, .int .u8 0, .int .u8 0, .int .u8 0, .int .u8 0, .int .u8 0, .int .u8 0, .int .u8 0, .int .u8 0, .int .u8 0, .int .u8 0, .int .u8 0, .int .u8 0, .int .u8 0, .int .u8 0, .int .u8 0, .int .u8 0, .int .u8 0, .int .u8 0, .int .u8 0, .int .u8 0, .int .u8 0, .int .u8 0, .int .u8 0, .int .u8 0, .int .u8 0, .int .u8 0, .int .u8 0, .int .u8 0, .int .u8 0, .int .u8 0, .int .u8 0, .int .u8 0, .int .u8 0, .int .u8 0, .int .u8 0, .int .u8 0, .int .u8 0, .int .u8 0, .int .u8 0, .int .u8 0, .int .u8 0, .int .u8 0, .int .u8 0, .int .u8 0, .int .u8 0, .int .u8 0, .int .i64 0] 56)) B W.heap.size [] 0 := by
  refine ⟨none, 0, ⟨⟨_, heap_alloc_new W _, rfl⟩, ?_, ?_, ?_, ?_, fun j hj => absurd hj (by simp), ?_⟩, OwnV.nil _ _ _ _⟩
  all_goals (rw [World.cell?_alloc_mark]; rfl)
theorem flat_succ {ps : List (List Nat)} {k : Nat} {p : List Nat} (h : ps[k]? = some p) : (ps.take (k + 1)).flatten = (ps.take k).flatten ++ p := by
  rw [List.take_add_one, h]; simp
theorem flat_le (ps : List (List Nat)) (k : Nat) : (ps.take k).flatten.length ≤ ps.flatten.length := by
  have h := congrArg (fun q => q.flatten.length) (List.take_append_drop k ps)
  simp only [List.flatten_append, List.length_append] at h
  omega
theorem wd_last {t : List Nat} (h : ¬ t.length % 64 = 0) : wds t (nw t.length) = wds t (t.length / 64) ++ [ms (t.drop (64 * (t.length / 64))) (stO t false (64 * (t.length / 64))) (stI t false false (64 * (t.length / 64)))] := by
  rw [nw_no h, wds_succ]
  unfold wd ch
  rw [List.take_of_length_le (by simp; omega)]
theorem scan_gen (B b : Nat) (a : Option Addr) (n c : Nat) (xs : List MS) (len : Int) (o i : Bool) (l : List Nat) (w : World) (hx : xs.length = n) (hB : B ≤ b) (hn : n ≤ 2600000000000) (hl : l.length ≤ 64) (hm : MkB w b a n c len o i l) (ho : OwnV w B 49 7 a n c (mcs xs)) :
    Calls Tryd.prog 25 #[.pointer (some ⟨b, 0, none⟩)] w fun e w' => ∃ a' c', e = .returned (.tuple #[]) ∧ MkB w' b a' (n + 1) c' len (stO l o l.length) (stI l o i l.length) [] ∧ OwnV w' B 49 7 a' (n + 1) c' (mcs (xs ++ [ms l o i])) ∧ Below B w w' := by
  subst hx
  have h := scan_any B b a c xs len o i l w hB hn hl hm ho
  unfold ResSc at h
  rw [List.length_append] at h
  exact h
theorem OwnV.ge {w : World} {B : Nat} {e : TypeId} {size : Nat} {a : Option Addr} {n cap : Nat} {xs : List Value} (h : OwnV w B e size a n cap xs) {k : Nat} (hk : k < B) : a ≠ some ⟨k, 0, none⟩ := by
  rcases h.shape with ⟨h1, _⟩ | ⟨g, cur, h1, hb, _⟩
  · rw [h1]; intro e; cases e
  · rw [h1]
    intro e
    simp only [Option.some.injEq, Addr.mk.injEq, and_true] at e
    omega
/-- an index laid into its result's box -/
theorem res_ix {t : List Nat} {w w0 wr : World} {a : Option Addr} {n c : Nat} (hn : n = nw t.length) (h0 : Below w.heap.size w w0) (hb : Below (w.heap.size + 1) w0 wr) (ho : OwnV wr (w.heap.size + 1) 49 7 a n c (mcs (wds t n))) (v0 v1 : Value) :
    ResIx t w (.returned (.agg #[.slice a n c, .int .i64 t.length])) ((wr.setCell ⟨w.heap.size, 0, none⟩ v0).setCell ⟨w.heap.size, 1, none⟩ v1) := by
  subst hn
  have ne : ∀ g, a = some ⟨g, 0, none⟩ → (some ⟨w.heap.size, 0, none⟩ : Option Addr) ≠ some ⟨g, 0, none⟩ := fun g e1 e2 => ho.ge (Nat.lt_succ_self _) (by rw [e1]; exact e2.symm)
  exact ⟨a, c, rfl, ((ho.mono (Nat.le_succ _)).oth (Oth.setCell _ _ 0 v0) ne).oth (Oth.setCell _ _ 1 v1) ne, ((h0.trans (hb.mono (Nat.le_succ _))).setCell (Nat.le_refl _) _).setCell (Nat.le_refl _) _⟩
set_option maxRecDepth 100000 in
set_option maxHeartbeats 4000000 in
theorem Chunks_any (a : Option Addr) (cap : Nat) (ps : List (List Nat)) (w : World) (hl : ps.length ≤ 9223372036854775807) (hj : ps.flatten.length ≤ 140737488355328) (hr : RdP w a ps) :
    Calls Tryd.prog 15 #[.slice a ps.length cap] w (ResIx ps.flatten w) := by
  have HR := Lib.hid hr
  clear hr
  have zm := zeroMk
  go_enter Tryd.func15, Tryd.ntmps15
  go_upto_region 2 with (fail)
  have hm0 := mk0 (w.alloc (.cells #[.slice none 0 0, .int .i64 0] 27)) (w.heap.size + 1)
  rw [show (w.alloc (.cells #[.slice none 0 0, .int .i64 0] 27)).heap.size = w.heap.size + 1 by simp] at hm0
  have hx0 : (w.alloc (.cells #[.slice none 0 0, .int .i64 0] 27)).cell? ⟨w.heap.size, 0, none⟩ = some (.slice none 0 0) := by rw [World.cell?_alloc_mark]; rfl
  have hx1 : (w.alloc (.cells #[.slice none 0 0, .int .i64 0] 27)).cell? ⟨w.heap.size, 1, none⟩ = some (.int .i64 0) := by rw [World.cell?_alloc_mark]; rfl
  have hxf : ∀ j, (w.alloc (.cells #[.slice none 0 0, .int .i64 0] 27)).frozen? ⟨w.heap.size, j, none⟩ = false := fun j => by simp
  have hbw := (Below.refl w.heap.size w).alloc (Nat.le_refl _) (.cells #[.slice none 0 0, .int .i64 0] 27)
  have hsz : (w.alloc (.cells #[.slice none 0 0, .int .i64 0] 27)).heap.size = w.heap.size + 1 := by simp
  have HR1 := Lib.hid (HR.out.below hbw)
  generalize w.alloc (.cells #[.slice none 0 0, .int .i64 0] 27) = w0 at *
  have hb0 : Below (w.heap.size + 1) w0 (w0.alloc (.cells #[.slice none 0 0, .int .i64 0, .bool false, .bool false, .int .u8 0, .int .u8 0, .int .u8 0, .int .u8 0, .int .u8 0, .int .u8 0, .int .u8 0, .int .u8 0, .int .u8 0, .int .u8 0, .int .u8 0, .int .u8 0, .int .u8 0, .int .u8 0, .int .u8 0, .int .u8 0, .int .u8 0, .int .u8 0, .int .u8 0, .int .u8 0, .int .u8 0, .int .u8 0, .int .u8 0, .int .u8 0, .int .u8 0, .int .u8 0, .int .u8 0, .int .u8 0, .int .u8 0, .int .u8 0, .int .u8 0, .int .u8 0, .int .u8 0, .int .u8 0, .int .u8 0, .int .u8 0, .int .u8 0, .int .u8 0, .int .u8 0, .int .u8 0, .int .u8 0, .int .u8 0, .int .u8 0, .int .u8 0, .int .u8 0, .int .u8 0, .int .u8 0, .int .u8 0, .int .u8 0, .int .u8 0, .int .u8 0, .int .u8 0, .int .u8 0, .int .u8 0, .int .u8 0, .int .u8 0, .int .u8 0, .int .u8 0, .int .u8 0, .int .u8 0, .int .u8 0, .int .u8 0, .int .u8 0, .int .u8 0, .int .i64 0] 56)) := (Below.refl _ _).alloc (by omega) _
  generalize w0.alloc (.cells #[.slice none 0 0, .int .i64 0, .bool false, .bool false, .int .u8 0, .int .u8 0, .int .u8 0, .int .u8 0, .int .u8 0, .int .u8 0, .int .u8 0, .int .u8 0, .int .u8 0, .int .u8 0, .int .u8 0, .int .u8 0, .int .u8 0, .int .u8 0, .int .u8 0, .int .u8 0, .int .u8 0, .int .u8 0, .int .u8 0, .int .u8 0, .int .u8 0, .int .u8 0, .int .u8 0, .int .u8 0, .int .u8 0, .int .u8 0, .int .u8 0, .int .u8 0, .int .u8 0, .int .u8 0, .int .u8 0, .int .u8 0, .int .u8 0, .int .u8 0, .int .u8 0, .int .u8 0, .int .u8 0, .int .u8 0, .int .u8 0, .int .u8 0, .int .u8 0, .int .u8 0, .int .u8 0, .int .u8 0, .int .u8 0, .int .u8 0, .int .u8 0, .int .u8 0, .int .u8 0, .int .u8 0, .int .u8 0, .int .u8 0, .int .u8 0, .int .u8 0, .int .u8 0, .int .u8 0, .int .u8 0, .int .u8 0, .int .u8 0, .int .u8 0, .int .u8 0, .int .u8 0, .int .u8 0, .int .u8 0, .int .i64 0] 56) = w1 at *
  clear zm
  have HM0 := Lib.hid hm0; have HB0 := Lib.hid hb0; have HBW := Lib.hid hbw; have HSZ := Lib.hid hsz
  have HX0 := Lib.hid hx0; have HX1 := Lib.hid hx1; have HXF := Lib.hid hxf
  clear hm0 hb0 hbw hsz hx0 hx1 hxf
  go_wp2_with fail
  go_loopw [5, 8] (fun _ s8 wr => ∃ k : Nat, k ≤ ps.length ∧ s8 = .int .i64 k ∧ Hid (Mt wr (w.heap.size + 1) (w.heap.size + 1) (ps.take k).flatten (ps.take k).flatten.length) ∧ Hid (Below (w.heap.size + 1) w0 wr)) (fun _ s8 _ => ps.length - (intOf s8).toNat)
  case atStart => exact ⟨0, by omega, rfl, HM0, HB0⟩
  case round =>
    obtain ⟨k, hk, rfl, HMt, BR⟩ := hrel
    by_cases hlt : k < ps.length
    · obtain ⟨p, hp⟩ : ∃ p, ps[k]? = some p := ⟨_, List.getElem?_eq_getElem hlt⟩
      have hfl := flat_succ hp
      have hfb := flat_le ps (k + 1)
      rw [hfl, List.length_append] at hfb
      have HFL := Lib.hid hfl
      obtain ⟨b, off, ap, cp, rfl, hc, hcp, hrd⟩ := HR1.out k p hp
      have hc2 : wr.cell? ⟨b, off + k, none⟩ = some (.slice ap p.length cp) := by rw [BR.out.cell (by have h1 := lt_of_cell hc; have h2 := HSZ.out; show b < w.heap.size + 1; rw [h2] at h1; exact h1)]; exact hc
      have HADD := Lib.hid (add_any (w.heap.size + 1) (w.heap.size + 1) (ps.take k).flatten p ap cp w0 wr (Nat.le_refl _) BR.out (by rw [HSZ.out]; exact Nat.le_refl _) (by omega) HMt.out hcp hrd)
      clear hp hfl hc hrd hfb
      go_wp2_with (refine HADD.out.mono ?_; rintro e w2 ⟨rfl, hm2, hb2⟩; have HM2 := Lib.hid hm2; have B2 := Lib.hid (BR.out.trans hb2); clear hm2 hb2)
      go_roundw
      case rel => exact ⟨k + 1, by omega, by go_num, by rw [HFL.out, List.length_append]; exact HM2, B2⟩
      case measure => simp [intOf]; omega
    · have HE : Hid (ps.take k = ps) := Lib.hid (List.take_of_length_le (by omega))
      rw [HE.out] at HMt
      obtain ⟨ao, c, hm, ho⟩ := HMt.out
      generalize ps.flatten = t at *
      have hll : (t.drop (64 * (t.length / 64))).length = t.length % 64 := by simp; omega
      have HM := Lib.hid hm
      have HO := Lib.hid ho
      obtain ⟨_, c0, c1, _, _, _, c6⟩ := hm
      rw [hll] at c6
      clear ho
      have hx0 : wr.cell? ⟨w.heap.size, 0, none⟩ = some (.slice none 0 0) := by rw [BR.out.cell (by simp)]; exact HX0.out
      have hx1 : wr.cell? ⟨w.heap.size, 1, none⟩ = some (.int .i64 0) := by rw [BR.out.cell (by simp)]; exact HX1.out
      have hxf : ∀ j, wr.frozen? ⟨w.heap.size, j, none⟩ = false := fun j => by rw [BR.out.frozen (by simp)]; exact HXF.out j
      by_cases h0 : t.length % 64 = 0
      · have h1 : ((t.length % 64 : Nat) : Int) = 0 := by omega
        have HN : Hid (t.length / 64 = nw t.length) := Lib.hid (by unfold nw; omega)
        clear h0
        go_wp2
        refine bodyPost_ret (v := .agg #[.slice ao (t.length / 64) c, .int .i64 t.length]) (by simp [results, Tryd.results15, go_sem, hx0, hx1]) rfl ?_
        exact res_ix HN.out HBW.out BR.out HO.out _ _
      · have h1 : (0 : Int) < ((t.length % 64 : Nat) : Int) := by omega
        have HN := Lib.hid (nw_no h0)
        have HSC := Lib.hid (scan_gen (w.heap.size + 1) (w.heap.size + 1) ao (t.length / 64) c (wds t (t.length / 64)) _ _ _ (t.drop (64 * (t.length / 64))) wr (wds_length _ _) (Nat.le_refl _) (by omega) (by omega) HM.out HO.out)
        rw [← wd_last h0] at HSC
        clear h0
        go_wp2_with (refine HSC.out.mono ?_; rintro e w4 ⟨a4, c4, rfl, hm4, ho4, hb4⟩; have HO4 := Lib.hid ho4; have B4 := Lib.hid (BR.out.trans hb4); have d0 := hm4.c0; have d1 := hm4.c1; have y0 : w4.cell? ⟨w.heap.size, 0, none⟩ = some (.slice none 0 0) := (by rw [B4.out.cell (by simp)]; exact HX0.out); have y1 : w4.cell? ⟨w.heap.size, 1, none⟩ = some (.int .i64 0) := (by rw [B4.out.cell (by simp)]; exact HX1.out); have yf : ∀ j, w4.frozen? ⟨w.heap.size, j, none⟩ = false := (fun j => by rw [B4.out.frozen (by simp)]; exact HXF.out j); clear hm4 ho4 hb4)
        refine bodyPost_ret (v := .agg #[.slice a4 (t.length / 64 + 1) c4, .int .i64 t.length]) (by simp [results, Tryd.results15, go_sem, y0, y1]) rfl ?_
        have ho5 := HO4.out
        rw [HN.out] at ho5
        exact res_ix HN.out.symm HBW.out B4.out ho5 _ _
end Go.Proofs.YtibgejndlllhfaaDoor
