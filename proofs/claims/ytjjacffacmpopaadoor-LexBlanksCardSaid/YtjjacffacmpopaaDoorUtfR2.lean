/- The document's Decode. -/
import Derived.Test.YtjjacffacmpopaaDoorUtfR1
import Derived.Test.YtjjacffacmpopaaDoorUtfH
import Derived.Deep.RegionHeld3
import Derived.Deep.RegionWith
namespace Go.Proofs.YtjjacffacmpopaaDoor
open Go.RowKit UM

/-- what the document's Decode asks, by the first byte's size -/
theorem dcd_take {s : ByteArray} {n : Nat} (h : 0 < s.size) (h0 : sf (sb s 0) = n) (h1 : 1 ≤ n) (h2 : n ≤ s.size) (P : Nat) (hP : P = mv s (sb s 0 % own n) (n - 1)) :
    (Pt P → enc P = (bl s).take n → dcd (bl s) = (P, n, true)) ∧ (¬ (Pt P ∧ enc P = (bl s).take n) → dcd (bl s) = bad) := by
  obtain ⟨g1, g2⟩ := dcd_sf h h0 h1 h2 P hP
  constructor
  · intro hp he
    have e1 : dcd (bl s) = (P, en P, true) := by
      have h3 := dcd_enc hp ((bl s).drop n)
      rw [he, List.take_append_drop] at h3
      exact h3
    have hn : en P = n := by
      have h4 := congrArg List.length he
      rw [enc_len, List.length_take, bl_len] at h4; omega
    rw [e1, hn]
  · intro hno
    refine g2 fun ⟨hc, hp, hn⟩ => hno ⟨hp, ?_⟩
    have e1 := g1 ⟨hc, hp, hn⟩
    rcases dcd_cases (bl s) with ⟨p, t, _, e, e2⟩ | ⟨_, e2⟩ | ⟨_, e2⟩ <;> rw [e1] at e2 <;> simp only [Prod.mk.injEq] at e2
    · obtain ⟨rfl, e3, _⟩ := e2
      rw [e, e3, ← enc_len P, List.take_left]
    · exact absurd e2.2.2 (by decide)
    · exact absurd e2.2.2 (by decide)
theorem bl_take (s : ByteArray) (n : Nat) : bl (s.extract 0 n) = (bl s).take n := by
  unfold bl
  have h : (s.extract 0 n).data.toList = s.data.toList.take n := by
    rw [ByteArray.data_extract]
    simp
  rw [h, List.map_take]
theorem txt_eq {l : List Nat} {t : ByteArray} (hl : ∀ x ∈ l, x < 256) : ((tx l).toList == t.toList) = decide (l = bl t) := by
  rw [ByteArray.toList_eq, ByteArray.toList_eq, Bool.eq_iff_iff, beq_iff_eq, decide_eq_true_iff]
  constructor
  · intro h
    rw [← bl_tx hl]
    unfold bl; rw [h]
  · intro h
    have : tx l = t := by rw [h, tx_bl]
    rw [this]
def ResD (s : ByteArray) (w : World) (r : Ending) (w' : World) : Prop := r = .returned (.tuple #[.int .i64 ((dcd (bl s)).1 : Nat), .int .i64 ((dcd (bl s)).2.1 : Nat), .bool (dcd (bl s)).2.2]) ∧ Below w.heap.size w w'
theorem ret_rd {s : ByteArray} {w : World} {p m : Nat} {b : Bool} {w' : World} (h : dcd (bl s) = (p, m, b)) (hw : Below w.heap.size w w') : ResD s w (.returned (.tuple #[.int .i64 (p : Int), .int .i64 (m : Int), .bool b])) w' := ⟨by rw [h], hw⟩
end Go.Proofs.YtjjacffacmpopaaDoor
