/- valid: the document's Same walked. -/
import Derived.Test.YtefaieglhllioaaDoorValL
namespace Go.Proofs.YtefaieglhllioaaDoor
open Go.RowKit UM QM VM

theorem spc_get : ∀ {sp : List (Nat × Nat)} {i : Nat} {p : Nat × Nat}, sp[i]? = some p → (spc sp)[i * 2]? = some (.int .i64 (p.1 : Int)) ∧ (spc sp)[i * 2 + 1]? = some (.int .i64 (p.2 : Int))
  | [], _, _, h => by simp at h
  | q :: sp, 0, p, h => by simp at h; subst h; simp [spc]
  | q :: sp, i + 1, p, h => by
    have h2 := spc_get (sp := sp) (i := i) (p := p) (by simpa using h)
    have e : spc (q :: sp) = [.int .i64 (q.1 : Int), .int .i64 (q.2 : Int)] ++ spc sp := by simp [spc]
    rw [e, show (i + 1) * 2 = i * 2 + 2 by omega]
    exact ⟨by rw [List.getElem?_append_right (by simp)]; exact h2.1, by rw [List.getElem?_append_right (by simp)]; exact h2.2⟩
/-- the i-th span of a row -/
theorem RdV.span {w : World} {a : Option Addr} {sp : List (Nat × Nat)} (h : RdV w a (spc sp)) {i : Nat} {p : Nat × Nat} (hp : sp[i]? = some p) : ∃ b off, a = some ⟨b, off, none⟩ ∧ w.cell? ⟨b, off + i * 2, none⟩ = some (.int .i64 (p.1 : Int)) ∧ w.cell? ⟨b, off + i * 2 + 1, none⟩ = some (.int .i64 (p.2 : Int)) := by
  obtain ⟨h1, h2⟩ := spc_get hp
  obtain ⟨b, off, e, c1⟩ := h _ _ h1
  obtain ⟨b', off', e', c2⟩ := h _ _ h2
  rw [e] at e'; cases e'
  exact ⟨b, off, e, c1, by rw [Nat.add_assoc]; exact c2⟩
set_option maxRecDepth 100000 in
set_option maxHeartbeats 2000000 in
theorem Same_any (a1 a2 : Option Addr) (c1 c2 : Nat) (sp sp' : List (Nat × Nat)) (w : World) (h1 : RdV w a1 (spc sp)) (h2 : RdV w a2 (spc sp')) (hl : sp.length ≤ 1000000000000) :
    Calls Tryd.prog 10 #[.slice a1 sp.length c1, .slice a2 sp'.length c2] w fun e w' => ∃ b n, e = .returned (.bool b) ∧ (sp = sp' → b = true) ∧ w' = w.drewN n := by
  have H1 := Lib.hid h1; have H2 := Lib.hid h2
  clear h1 h2
  by_cases hle : sp.length = sp'.length
  · have hne : ((sp.length : Int) != (sp'.length : Int)) = false := by simp; omega
    go_enter Tryd.func10, Tryd.ntmps10
    go_wp2_with fail
    go_loopw [5] (fun s5 wr => ∃ i n : Nat, i ≤ sp.length ∧ s5 = .int .i64 i ∧ wr = w.drewN n) (fun s5 _ => sp.length - (intOf s5).toNat)
    case atStart => exact ⟨0, 0, by omega, rfl, rfl⟩
    case round =>
      obtain ⟨i, n, hi, rfl, rfl⟩ := hrel
      by_cases hlt : i < sp.length
      · have hp := List.getElem?_eq_getElem hlt
        have hp' := List.getElem?_eq_getElem (show i < sp'.length by omega)
        generalize hq : sp[i] = p at *
        generalize hq' : sp'[i]'(by omega) = p' at *
        obtain ⟨b1, o1, rfl, x0, x1⟩ := RdV.span H1.out hp
        obtain ⟨b2, o2, rfl, y0, y1⟩ := RdV.span H2.out hp'
        have hlt2 : i < sp'.length := by omega
        by_cases he : p = p'
        · subst he
          clear hp hp' hq hq'
          go_wp2_with fail
          go_quiet (fail)
          go_wp2
          go_roundw
          case rel => exact ⟨i + 1, _, by omega, by go_num, rfl⟩
          case measure => simp [intOf]; omega
        · have HNE : Hid (sp = sp' → False) := Lib.hid (fun e => by subst e; rw [hp] at hp'; simp at hp'; exact he hp')
          obtain ⟨pa, pb⟩ := p
          obtain ⟨qa, qb⟩ := p'
          simp only at x0 x1 y0 y1
          by_cases h1 : pa = qa
          · subst h1
            have h2 : ¬ (pb : Int) = (qb : Int) := by
              intro e
              exact he (by rw [show pb = qb by omega])
            clear hp hp' hq hq' he
            go_wp2_with fail
            go_quiet (fail)
            go_wp2
            go_ret
            exact ⟨false, _, rfl, fun e => (HNE.out e).elim, World.drewN_drewN _ _ _⟩
          · have h2 : ¬ (pa : Int) = (qa : Int) := by omega
            clear hp hp' hq hq' he h1
            go_wp2_with fail
            go_quiet (fail)
            go_wp2
            go_ret
            exact ⟨false, _, rfl, fun e => (HNE.out e).elim, World.drewN_drewN _ _ _⟩
      · go_wp2
        go_ret
        exact ⟨true, n, rfl, fun _ => rfl, rfl⟩
  · have hne : ((sp.length : Int) != (sp'.length : Int)) = true := by simp; omega
    have HNE : Hid (sp = sp' → false = true) := Lib.hid (fun e => by subst e; exact absurd rfl hle)
    clear hle
    go_enter Tryd.func10, Tryd.ntmps10
    go_wp2
    go_ret
    exact ⟨false, 0, rfl, HNE.out, rfl⟩
end Go.Proofs.YtefaieglhllioaaDoor
