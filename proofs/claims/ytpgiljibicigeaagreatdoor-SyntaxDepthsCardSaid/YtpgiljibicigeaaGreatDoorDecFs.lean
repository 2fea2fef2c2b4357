/- Walks of the document's answer for dec: To, Norm, Same. -/
import Derived.Test.YtpgiljibicigeaaGreatDoorDecBs
import Derived.Test.YtpgiljibicigeaaGreatDoorLimbGs
import Derived.Lib.OthersKept
set_option linter.unusedVariables false
set_option linter.unusedSimpArgs false
namespace Go.Proofs.YtpgiljibicigeaaGreatDoor
open Go.RowKit LM

end Go.Proofs.YtpgiljibicigeaaGreatDoor

/- Walks of dec: slices.Equal, isPlain, May. -/
namespace Go.Proofs.YtpgiljibicigeaaGreatDoor
open Go.RowKit LM

end Go.Proofs.YtpgiljibicigeaaGreatDoor

/- Walks of dec: May, of the program and of the document. -/
namespace Go.Proofs.YtpgiljibicigeaaGreatDoor
open Go.RowKit LM

theorem dg_len_9 (v : Nat) : (dg 1000000000 v).length ≤ (dg 10 v).length := by
  refine dg_len_of_lt (by omega) ?_
  exact Nat.lt_of_lt_of_le (dg_upper (b := 10) (by omega) v) (Nat.pow_le_pow_left (by omega) _)
end Go.Proofs.YtpgiljibicigeaaGreatDoor

/- Walk of dec.Text. -/
namespace Go.Proofs.YtpgiljibicigeaaGreatDoor
open Go.RowKit LM

end Go.Proofs.YtpgiljibicigeaaGreatDoor

/- Walk of dec.after, afterDigit, mayEnd: the states of a number's text. -/
namespace Go.Proofs.YtpgiljibicigeaaGreatDoor
open Go.RowKit LM

def nd (st : Int) : Int := if st = 1 ∨ st = 2 ∨ st = 4 then 4 else if st = 5 ∨ st = 6 then 6 else if st = 7 ∨ st = 8 ∨ st = 9 then 9 else 0
def nx (st c : Int) : Int :=
  if c = 45 ∧ st = 1 then 2
  else if c = 48 ∧ (st = 1 ∨ st = 2) then 3
  else if 48 ≤ c ∧ c ≤ 57 then nd st
  else if c = 46 ∧ (st = 3 ∨ st = 4) then 5
  else if (c = 101 ∨ c = 69) ∧ (st = 3 ∨ st = 4 ∨ st = 6) then 7
  else if (c = 43 ∨ c = 45) ∧ st = 7 then 8
  else 0

set_option maxHeartbeats 4000000 in
theorem afterDigit_any (st : Int) (w : World) (h0 : 0 ≤ st) (h9 : st ≤ 9) : Calls Tryz.prog 139 #[.int .i64 st] w fun r w' => r = .returned (.int .i64 (nd st)) ∧ Below w.heap.size w w' := by
  have hc : st = 0 ∨ st = 1 ∨ st = 2 ∨ st = 3 ∨ st = 4 ∨ st = 5 ∨ st = 6 ∨ st = 7 ∨ st = 8 ∨ st = 9 := by omega
  clear h0 h9
  rcases hc with rfl | rfl | rfl | rfl | rfl | rfl | rfl | rfl | rfl | rfl <;>
  · go_enter Tryz.func139, Tryz.ntmps139
    go_wp2
    go_ret
    exact ⟨rfl, Below.refl _ _⟩

set_option maxHeartbeats 4000000 in
theorem mayEnd_any (st : Int) (w : World) (h0 : 0 ≤ st) (h9 : st ≤ 9) : Calls Tryz.prog 130 #[.int .i64 st] w fun r w' => r = .returned (.bool (decide (st = 3 ∨ st = 4 ∨ st = 6 ∨ st = 9))) ∧ Below w.heap.size w w' := by
  have hc : st = 0 ∨ st = 1 ∨ st = 2 ∨ st = 3 ∨ st = 4 ∨ st = 5 ∨ st = 6 ∨ st = 7 ∨ st = 8 ∨ st = 9 := by omega
  clear h0 h9
  rcases hc with rfl | rfl | rfl | rfl | rfl | rfl | rfl | rfl | rfl | rfl <;>
  · go_enter Tryz.func130, Tryz.ntmps130
    go_wp2
    go_ret
    exact ⟨rfl, Below.refl _ _⟩

end Go.Proofs.YtpgiljibicigeaaGreatDoor

/- Walks of dec.after: signs and the point. -/
namespace Go.Proofs.YtpgiljibicigeaaGreatDoor
open Go.RowKit LM

set_option maxHeartbeats 8000000 in
theorem after_k1 (st c : Int) (w : World) (h0 : 0 ≤ st) (h9 : st ≤ 9) (hcc : c = 43 ∨ c = 45 ∨ c = 46) : Calls Tryz.prog 129 #[.int .i64 st, .int .i32 c] w fun r w' => r = .returned (.int .i64 (nx st c)) ∧ Below w.heap.size w w' := by
  have hD := fun W => afterDigit_any st W h0 h9
  have HD := Lib.hid hD
  clear hD
  have hc : st = 0 ∨ st = 1 ∨ st = 2 ∨ st = 3 ∨ st = 4 ∨ st = 5 ∨ st = 6 ∨ st = 7 ∨ st = 8 ∨ st = 9 := by omega
  clear h0 h9
  rcases hc with rfl | rfl | rfl | rfl | rfl | rfl | rfl | rfl | rfl | rfl <;> rcases hcc with rfl | rfl | rfl
  all_goals
    ( go_enter Tryz.func129, Tryz.ntmps129
      first
        | ( go_wp2
            go_ret
            exact ⟨rfl, Below.refl _ _⟩)
        | ( go_wp2_with (go_at_call 139; refine (HD.out _).mono ?_)
            rintro r w1 ⟨rfl, hb⟩
            go_wp2
            go_ret
            exact ⟨rfl, hb⟩))
end Go.Proofs.YtpgiljibicigeaaGreatDoor

/- Walks of dec.after: 0, e, E. -/
namespace Go.Proofs.YtpgiljibicigeaaGreatDoor
open Go.RowKit LM

set_option maxHeartbeats 8000000 in
theorem after_k2 (st c : Int) (w : World) (h0 : 0 ≤ st) (h9 : st ≤ 9) (hcc : c = 48 ∨ c = 69 ∨ c = 101) : Calls Tryz.prog 129 #[.int .i64 st, .int .i32 c] w fun r w' => r = .returned (.int .i64 (nx st c)) ∧ Below w.heap.size w w' := by
  have hD := fun W => afterDigit_any st W h0 h9
  have HD := Lib.hid hD
  clear hD
  have hc : st = 0 ∨ st = 1 ∨ st = 2 ∨ st = 3 ∨ st = 4 ∨ st = 5 ∨ st = 6 ∨ st = 7 ∨ st = 8 ∨ st = 9 := by omega
  clear h0 h9
  rcases hc with rfl | rfl | rfl | rfl | rfl | rfl | rfl | rfl | rfl | rfl <;> rcases hcc with rfl | rfl | rfl
  all_goals
    ( go_enter Tryz.func129, Tryz.ntmps129
      first
        | ( go_wp2
            go_ret
            exact ⟨rfl, Below.refl _ _⟩)
        | ( go_wp2_with (go_at_call 139; refine (HD.out _).mono ?_)
            rintro r w1 ⟨rfl, hb⟩
            go_wp2
            go_ret
            exact ⟨rfl, hb⟩))
end Go.Proofs.YtpgiljibicigeaaGreatDoor

/- Walks of dec.after: digits but for 0. -/
namespace Go.Proofs.YtpgiljibicigeaaGreatDoor
open Go.RowKit LM

set_option maxHeartbeats 8000000 in
theorem after_dig (st c : Int) (w : World) (h0 : 0 ≤ st) (h9 : st ≤ 9) (d1 : 49 ≤ c) (d2 : c ≤ 57) : Calls Tryz.prog 129 #[.int .i64 st, .int .i32 c] w fun r w' => r = .returned (.int .i64 (nd st)) ∧ Below w.heap.size w w' := by
  have hD := fun W => afterDigit_any st W h0 h9
  have HD := Lib.hid hD
  clear hD
  have hc : st = 0 ∨ st = 1 ∨ st = 2 ∨ st = 3 ∨ st = 4 ∨ st = 5 ∨ st = 6 ∨ st = 7 ∨ st = 8 ∨ st = 9 := by omega
  have e1 : ¬ c = 45 := by omega
  have e2 : ¬ c = 48 := by omega
  have e3 : 48 ≤ c := by omega
  clear h0 h9
  rcases hc with rfl | rfl | rfl | rfl | rfl | rfl | rfl | rfl | rfl | rfl
  all_goals
    ( go_enter Tryz.func129, Tryz.ntmps129
      go_wp2_with (go_at_call 139; refine (HD.out _).mono ?_)
      rintro r w1 ⟨rfl, hb⟩
      go_wp2
      go_ret
      exact ⟨rfl, hb⟩)
end Go.Proofs.YtpgiljibicigeaaGreatDoor

/- Walks of dec.after: all else. -/
namespace Go.Proofs.YtpgiljibicigeaaGreatDoor
open Go.RowKit LM

set_option maxHeartbeats 8000000 in
theorem after_lo (st c : Int) (w : World) (h0 : 0 ≤ st) (h9 : st ≤ 9) (n1 : c ≠ 43) (n2 : c ≠ 45) (n3 : c ≠ 46) (n4 : c ≠ 69) (n5 : c ≠ 101) (n6 : c < 48) : Calls Tryz.prog 129 #[.int .i64 st, .int .i32 c] w fun r w' => r = .returned (.int .i64 0) ∧ Below w.heap.size w w' := by
  have hc : st = 0 ∨ st = 1 ∨ st = 2 ∨ st = 3 ∨ st = 4 ∨ st = 5 ∨ st = 6 ∨ st = 7 ∨ st = 8 ∨ st = 9 := by omega
  have e2 : ¬ c = 48 := by omega
  have e3 : ¬ 48 ≤ c := by omega
  clear h0 h9
  rcases hc with rfl | rfl | rfl | rfl | rfl | rfl | rfl | rfl | rfl | rfl
  all_goals
    ( go_enter Tryz.func129, Tryz.ntmps129
      go_wp2
      go_ret
      exact ⟨rfl, Below.refl _ _⟩)
end Go.Proofs.YtpgiljibicigeaaGreatDoor

/- Walks of dec.after: all else. -/
namespace Go.Proofs.YtpgiljibicigeaaGreatDoor
open Go.RowKit LM

set_option maxHeartbeats 8000000 in
theorem after_hi (st c : Int) (w : World) (h0 : 0 ≤ st) (h9 : st ≤ 9) (n1 : c ≠ 43) (n2 : c ≠ 45) (n3 : c ≠ 46) (n4 : c ≠ 69) (n5 : c ≠ 101) (n6 : 57 < c) : Calls Tryz.prog 129 #[.int .i64 st, .int .i32 c] w fun r w' => r = .returned (.int .i64 0) ∧ Below w.heap.size w w' := by
  have hc : st = 0 ∨ st = 1 ∨ st = 2 ∨ st = 3 ∨ st = 4 ∨ st = 5 ∨ st = 6 ∨ st = 7 ∨ st = 8 ∨ st = 9 := by omega
  have e2 : ¬ c = 48 := by omega
  have e3 : 48 ≤ c := by omega
  have e4 : ¬ c ≤ 57 := by omega
  clear h0 h9
  rcases hc with rfl | rfl | rfl | rfl | rfl | rfl | rfl | rfl | rfl | rfl
  all_goals
    ( go_enter Tryz.func129, Tryz.ntmps129
      go_wp2
      go_ret
      exact ⟨rfl, Below.refl _ _⟩)
end Go.Proofs.YtpgiljibicigeaaGreatDoor

/- Walk of dec.read. -/
namespace Go.Proofs.YtpgiljibicigeaaGreatDoor
open Go.RowKit LM

theorem after_any (st c : Int) (w : World) (h0 : 0 ≤ st) (h9 : st ≤ 9) : Calls Tryz.prog 129 #[.int .i64 st, .int .i32 c] w fun r w' => r = .returned (.int .i64 (nx st c)) ∧ Below w.heap.size w w' := by
  by_cases k1 : c = 43 ∨ c = 45 ∨ c = 46
  · exact after_k1 st c w h0 h9 k1
  by_cases k2 : c = 48 ∨ c = 69 ∨ c = 101
  · exact after_k2 st c w h0 h9 k2
  by_cases kd : 49 ≤ c ∧ c ≤ 57
  · have hv : nx st c = nd st := by unfold nx; rw [if_neg (by omega), if_neg (by omega), if_pos ⟨by omega, kd.2⟩]
    rw [hv]; exact after_dig st c w h0 h9 kd.1 kd.2
  have hv : nx st c = 0 := by unfold nx; rw [if_neg (by omega), if_neg (by omega), if_neg (by omega), if_neg (by omega), if_neg (by omega), if_neg (by omega)]
  rw [hv]
  rcases Int.lt_or_le c 48 with h | h
  · exact after_lo st c w h0 h9 (by omega) (by omega) (by omega) (by omega) (by omega) h
  · exact after_hi st c w h0 h9 (by omega) (by omega) (by omega) (by omega) (by omega) (by omega)

theorem nx_rng (st c : Int) : nx st c = 0 ∨ nx st c = 2 ∨ ((nx st c = 3 ∨ nx st c = 4 ∨ nx st c = 6 ∨ nx st c = 9) ∧ 48 ≤ c ∧ c ≤ 57) ∨ nx st c = 5 ∨ nx st c = 7 ∨ nx st c = 8 := by
  unfold nx nd
  repeat' split
  all_goals omega

structure RS where
  st : Int
  neg : Bool
  ds : List UInt8
  beh : Nat
  down : Bool
  pw : Nat

def rupd (q : RS) (c : Nat) : RS :=
  let t := nx q.st c
  ⟨t, if t = 2 then true else q.neg, if t = 3 ∨ t = 4 ∨ t = 6 then q.ds ++ [UInt8.ofNat c] else q.ds, if t = 6 then q.beh + 1 else q.beh, if t = 8 then decide (c = 45) else q.down, if t = 9 then min (10 * q.pw + (c - 48)) 30000 else q.pw⟩

def rrun (s : ByteArray) : Nat → Nat → RS → Option RS
  | 0, _, q => some q
  | f + 1, pos, q => if pos < s.size then (if nx q.st (Utf8.decode s pos).1 = 0 then none else rrun s f (pos + (Utf8.decode s pos).2) (rupd q (Utf8.decode s pos).1)) else some q

def rs0 : RS := ⟨1, false, [], 0, false, 0⟩

def ResR (s : ByteArray) (w : World) (r : Ending) (w' : World) : Prop :=
  Below w.heap.size w w' ∧ ((rrun s s.size 0 rs0 = none ∧ r = .returned (.tuple #[.agg #[.bool false, .slice none 0 0, .int .i64 0, .bool false, .int .i64 0], .bool false])) ∨
  ∃ q a c, rrun s s.size 0 rs0 = some q ∧ r = .returned (.tuple #[.agg #[.bool q.neg, .slice a q.ds.length c, .int .i64 (q.beh : Nat), .bool q.down, .int .i64 (q.pw : Nat)], .bool (decide (q.st = 3 ∨ q.st = 4 ∨ q.st = 6 ∨ q.st = 9))]) ∧
    Own w' w.heap.size 5 .u8 a c (nb q.ds) ∧ q.pw ≤ 30000 ∧ q.beh ≤ s.size ∧ q.ds.length ≤ s.size)

theorem width_pos (s : ByteArray) (pos : Nat) (h : pos < s.size) : 1 ≤ (Utf8.decode s pos).2 := by
  by_cases ha : (s[pos]'h).toNat < 128
  · rw [decode_ascii s pos h ha]
    exact Nat.le_refl _
  · exact (decode_high s pos h (by omega)).2

theorem iterCell {w : World} {k b o : Nat} {s : ByteArray} {p : Nat} (h : b ≠ k) : (w.iterAt k s p).cell? ⟨b, o, none⟩ = w.cell? ⟨b, o, none⟩ ∧ (w.iterAt k s p).frozen? ⟨b, o, none⟩ = w.frozen? ⟨b, o, none⟩ := by
  have := Lib.iterAt_other w k b s p h
  constructor <;> simp [World.cell?, World.frozen?, this]

theorem gb_iter (w : World) (k : Nat) (s : ByteArray) (p : Nat) : w.grownBy (w.iterAt k s p) (some k) :=
  ⟨rfl, rfl, rfl, by rw [Lib.iterAt_size]; exact Nat.le_refl _, fun i _ hne => Lib.iterAt_other w k i s p (by intro e; exact hne (by rw [e]))⟩

structure RI (s : ByteArray) (w wr : World) (pos : Nat) (q : RS) (ao : Option Addr) (cap : Nat) : Prop where
  c0 : wr.cell? ⟨w.heap.size + 1, 0, none⟩ = some (.bool q.neg)
  c1 : wr.cell? ⟨w.heap.size + 1, 1, none⟩ = some (.slice ao q.ds.length cap)
  c2 : wr.cell? ⟨w.heap.size + 1, 2, none⟩ = some (.int .i64 (q.beh : Nat))
  c3 : wr.cell? ⟨w.heap.size + 1, 3, none⟩ = some (.bool q.down)
  c4 : wr.cell? ⟨w.heap.size + 1, 4, none⟩ = some (.int .i64 (q.pw : Nat))
  f1 : ∀ j, wr.frozen? ⟨w.heap.size + 1, j, none⟩ = false
  f0 : ∀ j, wr.frozen? ⟨w.heap.size, j, none⟩ = false
  res : ∀ j, j < 5 → ∃ x, wr.cell? ⟨w.heap.size, j, none⟩ = some x
  it : wr.heap[w.heap.size + 2]? = some (.stringIter s pos)
  own : Own wr (w.heap.size + 3) 5 .u8 ao cap (nb q.ds)
  bw : Below w.heap.size w wr

variable {s : ByteArray} {w wr : World} {pos : Nat} {q : RS} {ao : Option Addr} {cap : Nat}

theorem RI.lt (h : RI s w wr pos q ao cap) : w.heap.size + 2 < wr.heap.size := (Array.getElem?_eq_some_iff.1 h.it).1

theorem RI.ofBelow (h : RI s w wr pos q ao cap) {w' : World} {ao' : Option Addr} {cap' : Nat} (hb : Below (w.heap.size + 3) wr w') : 
    w'.cell? ⟨w.heap.size + 1, 0, none⟩ = some (.bool q.neg) ∧ w'.cell? ⟨w.heap.size + 1, 1, none⟩ = some (.slice ao q.ds.length cap) ∧ w'.cell? ⟨w.heap.size + 1, 2, none⟩ = some (.int .i64 (q.beh : Nat)) ∧ w'.cell? ⟨w.heap.size + 1, 3, none⟩ = some (.bool q.down) ∧ w'.cell? ⟨w.heap.size + 1, 4, none⟩ = some (.int .i64 (q.pw : Nat)) ∧ (∀ j, w'.frozen? ⟨w.heap.size + 1, j, none⟩ = false) ∧ (∀ j, w'.frozen? ⟨w.heap.size, j, none⟩ = false) ∧ (∀ j, j < 5 → ∃ x, w'.cell? ⟨w.heap.size, j, none⟩ = some x) ∧ w'.heap[w.heap.size + 2]? = some (.stringIter s pos) ∧ Below w.heap.size w w' := by
  refine ⟨?_, ?_, ?_, ?_, ?_, fun j => ?_, fun j => ?_, fun j hj => ?_, ?_, h.bw.trans (hb.mono (by omega))⟩
  · rw [hb.cell (by simp)]; exact h.c0
  · rw [hb.cell (by simp)]; exact h.c1
  · rw [hb.cell (by simp)]; exact h.c2
  · rw [hb.cell (by simp)]; exact h.c3
  · rw [hb.cell (by simp)]; exact h.c4
  · rw [hb.frozen (by simp)]; exact h.f1 j
  · rw [hb.frozen (by simp)]; exact h.f0 j
  · rw [hb.cell (by simp)]; exact h.res j hj
  · rw [hb.block _ (by omega)]; exact h.it

theorem RI.below (h : RI s w wr pos q ao cap) {w' : World} (hb : Below wr.heap.size wr w') : RI s w w' pos q ao cap := by
  obtain ⟨a0, a1, a2, a3, a4, a5, a6, a7, a8, a9⟩ := h.ofBelow (ao' := ao) (cap' := cap) (hb.mono (by have := h.lt; omega))
  exact ⟨a0, a1, a2, a3, a4, a5, a6, a7, a8, h.own.below hb, a9⟩

theorem RI.iter (h : RI s w wr pos q ao cap) (p : Nat) : RI s w (wr.iterAt (w.heap.size + 2) s p) p q ao cap := by
  have k1 := fun o => iterCell (w := wr) (k := w.heap.size + 2) (b := w.heap.size + 1) (o := o) (s := s) (p := p) (by omega)
  have k0 := fun o => iterCell (w := wr) (k := w.heap.size + 2) (b := w.heap.size) (o := o) (s := s) (p := p) (by omega)
  exact ⟨by rw [(k1 0).1]; exact h.c0, by rw [(k1 1).1]; exact h.c1, by rw [(k1 2).1]; exact h.c2, by rw [(k1 3).1]; exact h.c3, by rw [(k1 4).1]; exact h.c4, fun j => by rw [(k1 j).2]; exact h.f1 j, fun j => by rw [(k0 j).2]; exact h.f0 j, fun j hj => by rw [(k0 j).1]; exact h.res j hj,
    Lib.iterAt_heap wr _ s pos p h.it, h.own.gb (gb_iter _ _ _ _) (h.own.apart (by omega)), Lib.below_iterAt h.bw (by omega) s p⟩

theorem setHeap {w : World} {b o k : Nat} {v : Value} (h : k ≠ b) : (w.setCell ⟨b, o, none⟩ v).heap[k]? = w.heap[k]? := by
  have := (gb_set (gb_refl w (some b)) o v).block
  rcases Nat.lt_or_ge k w.heap.size with hk | hk
  · exact this k hk (by intro e; exact h (by simpa using e))
  · have hs : (w.setCell ⟨b, o, none⟩ v).heap.size = w.heap.size := by simp
    rw [Array.getElem?_eq_none hk, Array.getElem?_eq_none (by rw [hs]; exact hk)]

theorem RI.set0 (h : RI s w wr pos q ao cap) (b : Bool) : RI s w (wr.setCell ⟨w.heap.size + 1, 0, none⟩ (.bool b)) pos { q with neg := b } ao cap := by
  obtain ⟨c0, c1, c2, c3, c4, f1, f0, res, it, own, bw⟩ := h
  exact ⟨by simp [go_sem, c0], by simp [go_sem, c1], by simp [go_sem, c2], by simp [go_sem, c3], by simp [go_sem, c4], fun j => by simp [go_sem, f1], fun j => by simp [go_sem, f0], fun j hj => by obtain ⟨x, hx⟩ := res j hj; exact ⟨x, by simp [go_sem, hx]⟩, by rw [setHeap (by omega)]; exact it, own.setFar (own.apart (by omega)) _ _, bw.setCell (by simp) _⟩
theorem RI.set2 (h : RI s w wr pos q ao cap) (n : Nat) : RI s w (wr.setCell ⟨w.heap.size + 1, 2, none⟩ (.int .i64 (n : Nat))) pos { q with beh := n } ao cap := by
  obtain ⟨c0, c1, c2, c3, c4, f1, f0, res, it, own, bw⟩ := h
  exact ⟨by simp [go_sem, c0], by simp [go_sem, c1], by simp [go_sem, c2], by simp [go_sem, c3], by simp [go_sem, c4], fun j => by simp [go_sem, f1], fun j => by simp [go_sem, f0], fun j hj => by obtain ⟨x, hx⟩ := res j hj; exact ⟨x, by simp [go_sem, hx]⟩, by rw [setHeap (by omega)]; exact it, own.setFar (own.apart (by omega)) _ _, bw.setCell (by simp) _⟩
theorem RI.set3 (h : RI s w wr pos q ao cap) (b : Bool) : RI s w (wr.setCell ⟨w.heap.size + 1, 3, none⟩ (.bool b)) pos { q with down := b } ao cap := by
  obtain ⟨c0, c1, c2, c3, c4, f1, f0, res, it, own, bw⟩ := h
  exact ⟨by simp [go_sem, c0], by simp [go_sem, c1], by simp [go_sem, c2], by simp [go_sem, c3], by simp [go_sem, c4], fun j => by simp [go_sem, f1], fun j => by simp [go_sem, f0], fun j hj => by obtain ⟨x, hx⟩ := res j hj; exact ⟨x, by simp [go_sem, hx]⟩, by rw [setHeap (by omega)]; exact it, own.setFar (own.apart (by omega)) _ _, bw.setCell (by simp) _⟩
theorem RI.set4 (h : RI s w wr pos q ao cap) (n : Nat) : RI s w (wr.setCell ⟨w.heap.size + 1, 4, none⟩ (.int .i64 (n : Nat))) pos { q with pw := n } ao cap := by
  obtain ⟨c0, c1, c2, c3, c4, f1, f0, res, it, own, bw⟩ := h
  exact ⟨by simp [go_sem, c0], by simp [go_sem, c1], by simp [go_sem, c2], by simp [go_sem, c3], by simp [go_sem, c4], fun j => by simp [go_sem, f1], fun j => by simp [go_sem, f0], fun j hj => by obtain ⟨x, hx⟩ := res j hj; exact ⟨x, by simp [go_sem, hx]⟩, by rw [setHeap (by omega)]; exact it, own.setFar (own.apart (by omega)) _ _, bw.setCell (by simp) _⟩
theorem RI.push (h : RI s w wr pos q ao cap) {w2 : World} {ao2 : Option Addr} {cap2 : Nat} {l : List UInt8} (hb : Below (w.heap.size + 3) wr w2) (ho : Own w2 (w.heap.size + 3) 5 .u8 ao2 cap2 (nb l)) (n : Nat) (hn : n = l.length) :
    RI s w (w2.setCell ⟨w.heap.size + 1, 1, none⟩ (.slice ao2 n cap2)) pos { q with ds := l } ao2 cap2 := by
  subst hn
  obtain ⟨c0, c1, c2, c3, c4, f1, f0, res, it, bw⟩ := h.ofBelow (ao' := ao) (cap' := cap) hb
  exact ⟨by simp [go_sem, c0], by simp [go_sem, c1], by simp [go_sem, c2], by simp [go_sem, c3], by simp [go_sem, c4], fun j => by simp [go_sem, f1], fun j => by simp [go_sem, f0], fun j hj => by obtain ⟨x, hx⟩ := res j hj; exact ⟨x, by simp [go_sem, hx]⟩, by rw [setHeap (by omega)]; exact it, ho.setFar (ho.apart (by omega)) _ _, bw.setCell (by simp) _⟩
end Go.Proofs.YtpgiljibicigeaaGreatDoor
