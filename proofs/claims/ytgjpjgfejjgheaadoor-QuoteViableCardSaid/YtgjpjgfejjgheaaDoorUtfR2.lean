/- The document's Decode. -/
import Derived.Test.YtgjpjgfejjgheaaDoorUtfR1
import Derived.Test.YtgjpjgfejjgheaaDoorUtfH
import Derived.Deep.RegionHeld3
import Derived.Deep.RegionWith
namespace Go.Proofs.YtgjpjgfejjgheaaDoor
open Go.RowKit UM

/-- what the document's Decode asks, by the first byte's size -/
theorem dcd_take {s : ByteArray} {n : Nat} (h : 0 < s.size) (h0 : sf (sb s 0) = n) (h1 : 1 ≤ n) (h2 : n ≤ s.size) (P : Nat) (hP : P = mv s (sb s 0 % own n) (n - 1)) :
    (Pt P → enc P = (bl s).take n → dcd (bl s) = (P, n, true)) ∧ (¬ (Pt P ∧ enc P = (bl s).take n) → dcd (bl s) = bad) := by
  obtain ⟨g1, g2⟩ := dcd_sf h h0 h1 h2 P hP
  constructor
  · intro hp he
    have e1 : dcd (bl s) = (P, en P, true) := by
      have h3 := dcd_enc hp ((bl s).drop n)
      rw [he, List.take_append_drop] at h3
      exact h3
    have hn : en P = n := by
      have h4 := congrArg List.length he
      rw [enc_len, List.length_take, bl_len] at h4; omega
    rw [e1, hn]
  · intro hno
    refine g2 fun ⟨hc, hp, hn⟩ => hno ⟨hp, ?_⟩
    have e1 := g1 ⟨hc, hp, hn⟩
    rcases dcd_cases (bl s) with ⟨p, t, _, e, e2⟩ | ⟨_, e2⟩ | ⟨_, e2⟩ <;> rw [e1] at e2 <;> simp only [Prod.mk.injEq] at e2
    · obtain ⟨rfl, e3, _⟩ := e2
      rw [e, e3, ← enc_len P, List.take_left]
    · exact absurd e2.2.2 (by decide)
    · exact absurd e2.2.2 (by decide)
theorem bl_take (s : ByteArray) (n : Nat) : bl (s.extract 0 n) = (bl s).take n := by
  unfold bl
  have h : (s.extract 0 n).data.toList = s.data.toList.take n := by
    rw [ByteArray.data_extract]
    simp
  rw [h, List.map_take]
theorem txt_eq {l : List Nat} {t : ByteArray} (hl : ∀ x ∈ l, x < 256) : ((tx l).toList == t.toList) = decide (l = bl t) := by
  rw [ByteArray.toList_eq, ByteArray.toList_eq, Bool.eq_iff_iff, beq_iff_eq, decide_eq_true_iff]
  constructor
  · intro h
    rw [← bl_tx hl]
    unfold bl; rw [h]
  · intro h
    have : tx l = t := by rw [h, tx_bl]
    rw [this]
def ResD (s : ByteArray) (w : World) (r : Ending) (w' : World) : Prop := r = .returned (.tuple #[.int .i64 ((dcd (bl s)).1 : Nat), .int .i64 ((dcd (bl s)).2.1 : Nat), .bool (dcd (bl s)).2.2]) ∧ Below w.heap.size w w'
theorem ret_rd {s : ByteArray} {w : World} {p m : Nat} {b : Bool} {w' : World} (h : dcd (bl s) = (p, m, b)) (hw : Below w.heap.size w w') : ResD s w (.returned (.tuple #[.int .i64 (p : Int), .int .i64 (m : Int), .bool b])) w' := ⟨by rw [h], hw⟩
theorem RDecode_nil (w : World) : Calls Tryd.prog 26 #[.string ⟨#[]⟩] w (ResD ⟨#[]⟩ w) := by
  go_enter Tryd.func26, Tryd.ntmps26
  go_wp2
  go_ret3
  exact ⟨rfl, Below.refl _ _⟩
theorem RDecode_0 (s : ByteArray) (w : World) (h0 : 0 < s.size) (hn : sf s[0].toNat = 0 ∨ s.size < sf s[0].toNat) : Calls Tryd.prog 26 #[.string s] w (ResD s w) := by
  have hF := fun W => size_any s[0].toNat W s[0].toNat_lt
  have hbd : dcd (bl s) = bad := by
    rcases hn with h | h
    · exact dcd_none h0 (by rw [sb_at s 0 h0]; exact h)
    · exact dcd_cut h0 (by rw [sb_at s 0 h0]; exact h)
  generalize sf s[0].toNat = n at *
  have HF := Lib.hid hF
  have HB := Lib.hid hbd
  have e1 : ((s.size : Int) == 0) = false := by rw [beq_eq_false_iff_ne]; omega
  have e2 : ¬ (s.size : Int) = 0 := by omega
  clear hF hbd
  go_enter Tryd.func26, Tryd.ntmps26
  go_wp2_with fail
  refine (HF.out _).mono ?_
  rintro r w1 ⟨rfl, rfl⟩
  clear HF e1 e2
  by_cases h2 : n = 0
  · subst h2
    go_wp2
    go_ret3
    exact ret_rd HB.out (Below.refl _ _)
  · have h3 : s.size < n := by omega
    have h4 : ((n : Int) == 0) = false := by simp; omega
    have h5 : decide (s.size < n) = true := decide_eq_true h3
    clear hn
    go_wp2
    all_goals
      go_ret3
      exact ret_rd HB.out (Below.refl _ _)
set_option maxRecDepth 20000 in
theorem RDecode_1 (s : ByteArray) (w : World) (h0 : 0 < s.size) (hn : sf s[0].toNat = 1) : Calls Tryd.prog 26 #[.string s] w (ResD s w) := by
  have hF := fun W => size_any s[0].toNat W s[0].toNat_lt
  have e0 := sb_at s 0 h0
  have hl : s[0].toNat < 128 := by
    rcases sf_cases s[0].toNat with ⟨e, h⟩ | ⟨e, _⟩ | ⟨e, _⟩ | ⟨e, _⟩ | ⟨e, _⟩
    · exact h
    · omega
    · omega
    · omega
    · omega
  have hD : dcd (bl s) = (s[0].toNat, 1, true) := by rw [bl_zero s h0, dcd_cons, if_pos hl]
  rw [hn] at hF
  have HF := Lib.hid hF
  have HD := Lib.hid hD
  have e1 : ((s.size : Int) == 0) = false := by rw [beq_eq_false_iff_ne]; omega
  have e2 : ¬ (s.size : Int) = 0 := by omega
  have e3 : decide (s.size < 1) = false := decide_eq_false (by omega)
  have hl2 : (s[0].toNat : Int) < 128 := by omega
  clear hF hn hD e0 hl
  go_enter Tryd.func26, Tryd.ntmps26
  go_wp2_with fail
  refine (HF.out _).mono ?_
  rintro r w1 ⟨rfl, rfl⟩
  clear HF
  go_wp2
  go_ret3
  exact ret_rd HD.out (Below.refl _ _)
end Go.Proofs.YtgjpjgfejjgheaaDoor
