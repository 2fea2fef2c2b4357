/- parens: the document's Closes walked. -/
import Derived.Test.YtelagemniheeoaaDoorParZa
import Derived.WalkSmall
namespace Go.Proofs.YtelagemniheeoaaDoor
open Go.RowKit BM

theorem Stk.len {f : Nat → Bool} : ∀ {st : List Nat} {i : Nat}, Stk f i st → st.length ≤ i
  | [], _, _ => Nat.zero_le _
  | t :: st, i, h => by
    have h1 := h.1
    have h2 := Stk.len h.2.2.2.2
    simp only [List.length_cons]
    omega
def sv (st : List Nat) : List Value := nv8 st.reverse
theorem sv_cons (t : Nat) (st : List Nat) : sv (t :: st) = sv st ++ [.int .i64 (t : Int)] := by simp [sv, nv8]
theorem sv_len (st : List Nat) : (sv st).length = st.length := by simp [sv, nv8]
theorem sv_top (t : Nat) (st : List Nat) : (sv (t :: st))[st.length]? = some (.int .i64 (t : Int)) := by
  rw [sv_cons, List.getElem?_append_right (by rw [sv_len]; exact Nat.le_refl _), sv_len, Nat.sub_self]; rfl
theorem OwnV.base {w : World} {B g : Nat} {e : TypeId} {size : Nat} {n cap : Nat} {xs : List Value} (h : OwnV w B e size (some ⟨g, 0, none⟩) n cap xs) : B ≤ g := by
  rcases h.shape with ⟨h, _⟩ | ⟨g', _, h, hb, _⟩
  · cases h
  · simp only [Option.some.injEq, Addr.mk.injEq, and_true] at h; omega
theorem OwnV.pop1 {w : World} {B g : Nat} {e : TypeId} {n cap : Nat} {xs : List Value} {u : Value} (hx : xs.length = n) (h : OwnV w B e 1 (some ⟨g, 0, none⟩) (n + 1) cap (xs ++ [u])) : OwnV w B e 1 (some ⟨g, 0, none⟩) n cap xs :=
  ownsRow_pop (by rw [hx, Nat.mul_one]) h
def ResCl (f : Nat → Bool) (n : Nat) (w : World) (e : Ending) (w' : World) : Prop := ∃ la lc, e = .returned (.slice la n lc) ∧ RdV w' la (iv8 (clsL f n)) ∧ Below w.heap.size w w'
set_option maxHeartbeats 4000000 in
theorem Closes_any (a : Option Addr) (c : Nat) (f : Nat → Bool) (n : Nat) (w : World) (hr : RdF w a f n) (hn : n ≤ 768) (hn1 : 1 ≤ n) : Calls Tryd.prog 44 #[.slice a n c] w (ResCl f n w) := by
  have HR := Lib.hid (fun W (hb : Below w.heap.size w W) => hr.below hb)
  obtain ⟨Z, hZ⟩ : ∃ Z, madeCells #[Value.int .i64 0] n = Z := ⟨_, rfl⟩
  have hmk := fun w => run_make_row' (P := Tryd.prog) 40 3 (.int .i64 0) 8 Tryd.underlying40 infoI rfl .i64 .i64 n (by omega) (by omega) w
  rw [hZ] at hmk
  have o0 := own_made w Z n hZ (by omega)
  have b0 := (Below.refl w.heap.size w).alloc (Nat.le_refl _) (.cells Z 3)
  rw [show List.replicate n (Value.int .i64 0) = iv8 (List.replicate n 0) by unfold iv8; rw [List.map_replicate]] at o0
  clear hr hZ
  go_enter Tryd.func44, Tryd.ntmps44
  go_wp2_with fail
  generalize w.alloc (.cells Z 3) = w1 at *
  have O0 := Lib.hid o0; have B0 := Lib.hid b0
  clear o0 b0 hmk
  go_loopw [4, 5] (fun s4 s5 wr => ∃ (i : Nat) (st : List Nat) (ls : List Int) (ao : Option Addr) (co : Nat), s5 = .int .i64 i ∧ i ≤ n ∧ s4 = .slice ao st.length co ∧ Hid (Clo f n i st ls) ∧ Hid (OwnV wr w.heap.size 3 1 (some ⟨w.heap.size, 0, none⟩) n n (iv8 ls)) ∧ Hid (OwnV wr (w.heap.size + 1) 3 1 ao st.length co (sv st)) ∧ Hid (Below w.heap.size w wr)) (fun _ s5 _ => n - (intOf s5).toNat)
  case atStart => exact ⟨0, [], _, none, 0, rfl, by omega, rfl, Lib.hid (Clo.start f n), O0, Lib.hid (OwnV.nil _ _ _ _), B0⟩
  case round =>
    obtain ⟨i, st, ls, ao, co, rfl, hi, rfl, HC, HO, HS, HB⟩ := hrel
    by_cases hlt : i < n
    · obtain ⟨l1, hl1⟩ := cn_get HC.out.len hlt
      have c1 := HO.out.cellAt (iv8_get hl1)
      have f1 := HO.out.frozen i
      have HO2 : Hid (OwnV (wr.setCell ⟨w.heap.size, i, none⟩ (.int .i64 (-1))) w.heap.size 3 1 (some ⟨w.heap.size, 0, none⟩) n n (iv8 (ls.set i (-1)))) := Lib.hid (by rw [iv8_set]; exact HO.out.set i _)
      have HS2 : Hid (OwnV (wr.setCell ⟨w.heap.size, i, none⟩ (.int .i64 (-1))) (w.heap.size + 1) 3 1 ao st.length co (sv st)) := Lib.hid (HS.out.oth (Oth.setCell wr w.heap.size i _) (fun g e1 e2 => by
        subst e1
        have := HS.out.base
        simp only [Option.some.injEq, Addr.mk.injEq, and_true] at e2
        omega))
      have HB2 : Hid (Below w.heap.size w (wr.setCell ⟨w.heap.size, i, none⟩ (.int .i64 (-1)))) := Lib.hid (HB.out.setCell (Nat.le_refl _) _)
      obtain ⟨b, off, rfl, hc⟩ := HR.out _ HB2.out i hlt
      have hz : w.heap.size + 1 ≤ (wr.setCell ⟨w.heap.size, i, none⟩ (.int .i64 (-1))).heap.size := HO2.out.lt
      have hsl := HC.out.stk.len
      clear hl1
      go_upto_region 7 with (fail)
      generalize wr.setCell ⟨w.heap.size, i, none⟩ (.int .i64 (-1)) = w2 at *
      clear c1 f1 HO HS HB
      cases hf : f i with
      | true =>
        rw [hf] at hc
        have HC2 := Lib.hid (HC.out.push hlt hf)
        clear hf
        go_wp2_with (refine wp_row w2 rfl _ _ 40 rfl (w.heap.size + 1) 3 _ 1 8 Tryd.underlying40 infoI rfl (by decide) ao co st.length _ rfl _ rfl (by simp [Value.oneCell']) _ rfl HS2.out (by omega) (by unfold maxLen; omega) hz ?_; intro ao' cap' w' h1 h2 h3; have H1 := Lib.hid h1; have H2 := Lib.hid h2; have H3 := Lib.hid h3; clear h1 h2 h3)
        go_roundw
        case rel =>
          have h1 := H1.out
          exact ⟨i + 1, i :: st, _, ao', cap', by go_num, by omega, rfl, HC2, Lib.hid (HO2.out.oth H3.out (fun g e1 e2 => by
            simp at e1
            subst e2
            have := HS2.out.base
            omega)), Lib.hid (by rw [sv_cons]; exact h1), Lib.hid (HB2.out.trans (H2.out.mono (by omega)))⟩
        case measure => simp [intOf]; omega
      | false =>
        rw [hf] at hc
        cases st with
        | nil =>
          have HC2 := Lib.hid (HC.out.skip hlt hf)
          clear hf
          simp only [List.length_nil] at *
          go_wp2
          go_roundw
          case rel => exact ⟨i + 1, [], _, ao, co, by go_num, by omega, rfl, HC2, HO2, HS2, HB2⟩
          case measure => simp [intOf]; omega
        | cons t st =>
          have HC2 := Lib.hid (HC.out.pop hlt hf)
          have hti : t < i := HC.out.stk.1
          have hca := HS2.out.cap
          obtain ⟨g2, rfl⟩ : ∃ g, ao = some ⟨g, 0, none⟩ := by
            rcases HS2.out.shape with ⟨_, _, h, _⟩ | ⟨g, _, h, _⟩
            · simp at h
            · exact ⟨g, h⟩
          have c2 := HS2.out.cellAt (sv_top t st)
          obtain ⟨l2, hl2⟩ := cn_get (show (ls.set i (-1)).length = n by rw [List.length_set]; exact HC.out.len) (show t < n by omega)
          have c3 := HO2.out.cellAt (iv8_get hl2)
          have f3 := HO2.out.frozen t
          have hb2 := HS2.out.base
          have HO3 : Hid (OwnV (w2.setCell ⟨w.heap.size, t, none⟩ (.int .i64 i)) w.heap.size 3 1 (some ⟨w.heap.size, 0, none⟩) n n (iv8 ((ls.set i (-1)).set t (i : Int)))) := Lib.hid (by rw [iv8_set]; exact HO2.out.set t _)
          have HS3 : Hid (OwnV (w2.setCell ⟨w.heap.size, t, none⟩ (.int .i64 i)) (w.heap.size + 1) 3 1 (some ⟨g2, 0, none⟩) st.length co (sv st)) := Lib.hid (by
            have h := HS2.out.oth (Oth.setCell w2 w.heap.size t (.int .i64 i)) (fun g e1 e2 => by simp at e1 e2; omega)
            rw [sv_cons] at h
            exact OwnV.pop1 (sv_len st) h)
          have HB3 : Hid (Below w.heap.size w (w2.setCell ⟨w.heap.size, t, none⟩ (.int .i64 i))) := Lib.hid (HB2.out.setCell (Nat.le_refl _) _)
          obtain ⟨k, hk⟩ : ∃ k, st.length = k := ⟨_, rfl⟩
          simp only [List.length_cons] at *
          rw [hk] at hca c2 hsl
          have HK := Lib.hid hk
          rw [hk]
          obtain ⟨K, hK⟩ : ∃ K, k + 1 = K := ⟨_, rfl⟩
          rw [hK] at hca hsl
          rw [hK]
          have hK1 : 1 ≤ K := by omega
          have hKk : K ≤ co := hca.1
          have hKi : K ≤ i := hsl
          have s0 : IntKind.i64.wrap ((K : Int) - 1) = k := by rw [show (K : Int) - 1 = k by omega]; exact IntWalk.i64_in _ (by omega)
          clear hf hl2 hca hsl hk HS2 HC HB2 HO2
          go_wp2
          generalize w2.setCell ⟨w.heap.size, t, none⟩ (.int .i64 i) = w3 at *
          go_roundw
          case rel => exact ⟨i + 1, st, _, _, co, by go_num, by omega, by rw [HK.out], HC2, HO3, HS3, HB3⟩
          case measure => simp [intOf]; omega
    · obtain rfl : i = n := by omega
      have h := HO.out.rdV
      rw [HC.out.done] at h
      have HRV := Lib.hid h
      clear h hlt
      go_wp2
      go_ret
      exact ⟨_, _, rfl, HRV.out, HB.out⟩
end Go.Proofs.YtelagemniheeoaaDoor
