/- quote: what was written is read back. -/
import Derived.Test.YtpgiljibicigeaaGreatDoorUtfHs
import Derived.Deep.RegionLaw
import Derived.Test.YtpgiljibicigeaaGreatDoorQuoCs
set_option linter.unusedVariables false
set_option linter.unusedSimpArgs false
namespace Go.Proofs.YtpgiljibicigeaaGreatDoor
open Go.RowKit UM QM

theorem pk_of {l r : List Nat} {k c : Nat} (h : l.drop k = c :: r) : pk l k = (c : Nat) := by
  have hk : k < l.length := by
    rcases Nat.lt_or_ge k l.length with h' | h'
    · exact h'
    · rw [List.drop_of_length_le h'] at h; cases h
  unfold pk
  rw [if_pos hk]
  have e := List.drop_eq_getElem_cons hk
  rw [h] at e
  have e1 := (List.cons.inj e).1
  simp [hk, e1]
theorem drop_next {l r : List Nat} {k c : Nat} (h : l.drop k = c :: r) : l.drop (k + 1) = r := by
  rw [← List.drop_drop, h]; rfl
theorem piece_esc {l : List Nat} {k : Nat} (h : pk l k = 92) : pieceF l k = escF l (k + 1) := by
  unfold pieceF
  rw [h]
  rfl
end Go.Proofs.YtpgiljibicigeaaGreatDoor

/- quote: Plain walked. -/
namespace Go.Proofs.YtpgiljibicigeaaGreatDoor
open Go.RowKit UM QM

end Go.Proofs.YtpgiljibicigeaaGreatDoor

/- quote: Is walked. -/
namespace Go.Proofs.YtpgiljibicigeaaGreatDoor
open Go.RowKit UM QM

attribute [local go_sem] Oper.semAt_some
theorem Tl.ex (l : List Nat) : ∀ (n j : Nat), l.length + 1 - j ≤ n → ∃ xs e err, Tl l j xs e err := by
  intro n
  induction n with
  | zero =>
    intro j hj
    by_cases h : pk l j = 34
    · exact ⟨_, _, _, Tl.stop h⟩
    · by_cases h2 : (pieceF l j).2.1 = true
      · have := pk_ne h2; omega
      · exact ⟨_, _, _, Tl.bad h (by simpa using h2)⟩
  | succ n ih =>
    intro j hj
    by_cases h : pk l j = 34
    · exact ⟨_, _, _, Tl.stop h⟩
    · by_cases h2 : (pieceF l j).2.1 = true
      · have := piece_adv h2 (pk_ne h2)
        obtain ⟨xs, e, err, t⟩ := ih (pieceF l j).2.2 (by omega)
        exact ⟨_, _, _, Tl.go h h2 t⟩
      · exact ⟨_, _, _, Tl.bad h (by simpa using h2)⟩
theorem frz_gb {A B : World} {r : Nat} {p : Addr} {v : Value} (h : A.cell? p = some v) (hf : A.frozen? p = false) (hg : A.grownBy B (some r)) (hne : p.block ≠ r) : B.frozen? p = false := by
  rw [World.frozen?_of_block (w := A) (hg.block p.block (lt_of_cell h) (by simpa using hne))]; exact hf
end Go.Proofs.YtpgiljibicigeaaGreatDoor

/- quote: Is walked. -/
namespace Go.Proofs.YtpgiljibicigeaaGreatDoor
open Go.RowKit UM QM

attribute [local go_sem] Oper.semAt_some
theorem cell_new {W : World} {C : Array Value} {t : TypeId} {b j : Nat} (hb : b = W.heap.size) : (W.alloc (.cells C t)).cell? ⟨b, j, none⟩ = C[j]? := by subst hb; exact World.cell?_alloc_mark W C t (0, 0) j
theorem cell_old {W : World} {o : Obj} {p : Addr} (h : p.block < W.heap.size) : (W.alloc o).cell? p = W.cell? p := ((Below.refl W.heap.size W).alloc (Nat.le_refl _) o).cell h
theorem frz_new {W : World} {C : Array Value} {t : TypeId} {b j : Nat} (hb : b = W.heap.size) : (W.alloc (.cells C t)).frozen? ⟨b, j, none⟩ = false := by subst hb; simp
theorem frz_old {W : World} {o : Obj} {p : Addr} (h : p.block < W.heap.size) : (W.alloc o).frozen? p = W.frozen? p := ((Below.refl W.heap.size W).alloc (Nat.le_refl _) o).frozen h
end Go.Proofs.YtpgiljibicigeaaGreatDoor

/- quote: the bytes of a text as an argument. -/
namespace Go.Proofs.YtpgiljibicigeaaGreatDoor
open Go.RowKit UM QM

section
variable (W : World) (e : TypeId) (q : List Nat)
theorem bw_below (s : ByteArray) : Below W.heap.size W (Lib.bytesWorld W e s) :=
  ⟨rfl, rfl, rfl, by rw [Lib.bytesWorld_size]; omega, fun k hk => Lib.bytesWorld_at_old W e s k hk⟩
theorem bw_rd (hq : ∀ x ∈ q, x < 256) : Rd (Lib.bytesWorld W e (tx q)) .u8 (some ⟨W.heap.size, 0, none⟩) q := by
  refine Rd.mk fun j hj => ?_
  rw [Nat.zero_add, Lib.bytesWorld_cell W e (tx q) j (by rw [tx_size]; exact hj)]
  have h4 : q[j]?.getD 0 < 256 := by rw [List.getElem?_eq_getElem hj]; exact hq _ (List.getElem_mem hj)
  have : ((tx q).data.toList.getD j 0).toNat = q[j]?.getD 0 := by
    rw [tx_list, List.getD_eq_getElem?_getD, List.getElem?_map, List.getElem?_eq_getElem hj]
    show (UInt8.ofNat q[j]).toNat = q[j]
    rw [UInt8.toNat_ofNat', Nat.mod_eq_of_lt (hq _ (List.getElem_mem hj))]
  rw [this]
theorem bw_cap (n : Nat) : n ≤ grownCap W n 0 e := grownCap_ge W n 0 e
end
theorem conv_bw (W : World) (q : List Nat) : (convert 9 52 (.string (tx q))).run Tryz.prog W = .ok (.slice (some ⟨W.heap.size, 0, none⟩) q.length (grownCap W q.length 0 5)) (Lib.bytesWorld W 5 (tx q)) := by
  have h := Lib.run_convert_string_bytes (P := Tryz.prog) W 9 52 5 (tx q) Tryz.underlying9 Tryz.underlying52 Tryz.underlying5
  rw [tx_size] at h
  exact h
end Go.Proofs.YtpgiljibicigeaaGreatDoor

/- quote: what Read tells of a beginning. -/
namespace Go.Proofs.YtpgiljibicigeaaGreatDoor
open Go.RowKit UM QM

theorem piece_ge {l : List Nat} {k : Nat} : k ≤ (pieceF l k).2.2 := by
  have h1 := esc_ge l (k + 1)
  unfold pieceF pointF
  by_cases c1 : QM.pk l k < 32
  · rw [if_pos c1]; exact Nat.le_refl _
  rw [if_neg c1]
  have hk : k < l.length := pk_pos (by omega)
  repeat' split
  all_goals (try simp only)
  all_goals omega
theorem Tl.le {l : List Nat} {k : Nat} {xs : List Int} {e err : Nat} (t : Tl l k xs e err) : k ≤ e := by
  induction t with
  | stop h => exact Nat.le_succ _
  | bad h h2 => exact piece_ge
  | go h h2 t ih => exact Nat.le_trans piece_ge ih
theorem fault_ne (l : List Nat) (k : Nat) : faultF l k ≠ 0 := by
  unfold faultF
  repeat' split
  all_goals decide
end Go.Proofs.YtpgiljibicigeaaGreatDoor
