/- Walk of the document's run. -/
import Derived.Test.YtofeckdhhaoobaaDoorDecPm
namespace Go.Proofs.YtofeckdhhaoobaaDoor
open Go.RowKit LM

theorem dgs_go {c : UInt8} : ∀ {X : List UInt8} {k : Nat}, k ≤ (dgs X).length → X[k]? = some c → isD c = true → k + 1 ≤ (dgs X).length := by
  intro X
  induction X with
  | nil => intro k _ h _; simp at h
  | cons x t ih =>
    intro k hk h hc
    by_cases hx : isD x = true
    · rw [(dgs_cons hx).1] at hk ⊢
      cases k with
      | zero => simp
      | succ k => simp at h hk ⊢; exact ih hk h hc
    · have : dgs (x :: t) = [] := dgs_no (.inr ⟨x, t, rfl, by simpa using hx⟩)
      rw [this] at hk
      have hk0 : k = 0 := by simpa using hk
      subst hk0
      simp at h; subst h; exact absurd hc hx
theorem dgs_stop : ∀ {X : List UInt8} {k : Nat}, k ≤ (dgs X).length → (∀ c, X[k]? = some c → isD c = false) → (dgs X).length = k := by
  intro X
  induction X with
  | nil => intro k hk _; have h0 : k = 0 := by simpa [dgs] using hk
           subst h0; rfl
  | cons x t ih =>
    intro k hk h
    by_cases hx : isD x = true
    · rw [(dgs_cons hx).1] at hk ⊢
      cases k with
      | zero => have := h x rfl; rw [hx] at this; cases this
      | succ k => simp at hk ⊢; exact ih hk (fun c hc => h c (by simpa using hc))
    · have : dgs (x :: t) = [] := dgs_no (.inr ⟨x, t, rfl, by simpa using hx⟩)
      rw [this] at hk ⊢
      have hk0 : k = 0 := by simpa using hk
      rw [hk0]; rfl
theorem drop_get (s : ByteArray) (at0 k : Nat) (h : at0 + k < s.size) : (s.data.toList.drop at0)[k]? = some (s[at0 + k]'h) := by
  rw [List.getElem?_drop]
  have h2 : at0 + k < s.data.toList.length := by rw [Array.length_toList]; exact h
  rw [List.getElem?_eq_getElem h2]; rfl
theorem drop_none (s : ByteArray) (at0 k : Nat) (h : ¬ at0 + k < s.size) : (s.data.toList.drop at0)[k]? = none := by
  rw [List.getElem?_drop]
  exact List.getElem?_eq_none (by rw [Array.length_toList]; have : s.data.size = s.size := rfl; omega)

set_option maxHeartbeats 1000000 in
theorem run_any (s : ByteArray) (at0 : Nat) (w : World) (hs : s.size ≤ 140737488351232) (ha : at0 ≤ s.size) :
    Calls Tryd.prog 78 #[.string s, .int .i64 at0] w fun e w' => e = .returned (.int .i64 ((dgs (s.data.toList.drop at0)).length : Nat)) ∧ w = w' := by
  go_enter Tryd.func78, Tryd.ntmps78
  go_wp2
  go_loop [5] (fun i => ∃ k : Nat, at0 + k ≤ s.size ∧ i = .int .i64 k ∧ Hid (k ≤ (dgs (s.data.toList.drop at0)).length)) (fun i => s.size - (intOf i).toNat)
  case atStart => exact ⟨0, by omega, rfl, Nat.zero_le _⟩
  case round =>
    obtain ⟨k, hk, rfl, HA⟩ := hrel
    by_cases hlt : at0 + k < s.size
    · have hg := drop_get s at0 k hlt
      have hltI : (at0 : Int) + k < s.size := by omega
      by_cases hc1 : s[at0 + k].toNat < 48
      · have hI : ¬ 48 ≤ (s[at0 + k].toNat : Int) := by omega
        have HB := Lib.hid (dgs_stop HA.out (fun c hc => by rw [hg] at hc; cases hc; simp [isD]; omega))
        clear hg
        go_wp2
        go_ret
        exact ⟨ret_int (by rw [HB.out]), rfl⟩
      · by_cases hc2 : 57 < s[at0 + k].toNat
        · have hI : 48 ≤ (s[at0 + k].toNat : Int) := by omega
          have hI2 : ¬ (s[at0 + k].toNat : Int) ≤ 57 := by omega
          have HB := Lib.hid (dgs_stop HA.out (fun c hc => by rw [hg] at hc; cases hc; simp [isD]; omega))
          clear hg
          go_wp2
          go_ret
          exact ⟨ret_int (by rw [HB.out]), rfl⟩
        · have hI : 48 ≤ (s[at0 + k].toNat : Int) := by omega
          have hI2 : (s[at0 + k].toNat : Int) ≤ 57 := by omega
          have HB := Lib.hid (dgs_go HA.out hg (by simp [isD]; omega))
          clear hg
          go_wp2
          go_round
          case rel => exact ⟨k + 1, by omega, by go_num, HB⟩
          case measure => simp [intOf]; omega
    · have HB := Lib.hid (dgs_stop HA.out (fun c hc => by rw [drop_none s at0 k hlt] at hc; cases hc))
      have hltI : ¬ (at0 : Int) + k < s.size := by omega
      go_wp2
      go_ret
      exact ⟨ret_int (by rw [HB.out]), rfl⟩
end Go.Proofs.YtofeckdhhaoobaaDoor
