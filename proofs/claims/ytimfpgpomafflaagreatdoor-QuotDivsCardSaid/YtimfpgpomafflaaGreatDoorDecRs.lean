/- Walk of dec.after, afterDigit, mayEnd: the states of a number's text. -/
import Derived.Test.YtimfpgpomafflaaGreatDoorDecTs
import Derived.Lib.OthersKept
import Derived.Test.YtimfpgpomafflaaGreatDoorLimbGs
namespace Go.Proofs.YtimfpgpomafflaaGreatDoor
open Go.RowKit LM

def nd (st : Int) : Int := if st = 1 ∨ st = 2 ∨ st = 4 then 4 else if st = 5 ∨ st = 6 then 6 else if st = 7 ∨ st = 8 ∨ st = 9 then 9 else 0
def nx (st c : Int) : Int :=
  if c = 45 ∧ st = 1 then 2
  else if c = 48 ∧ (st = 1 ∨ st = 2) then 3
  else if 48 ≤ c ∧ c ≤ 57 then nd st
  else if c = 46 ∧ (st = 3 ∨ st = 4) then 5
  else if (c = 101 ∨ c = 69) ∧ (st = 3 ∨ st = 4 ∨ st = 6) then 7
  else if (c = 43 ∨ c = 45) ∧ st = 7 then 8
  else 0

theorem ret_i64 {x y : Int} (h : x = y) : Ending.returned (.int .i64 x) = Ending.returned (.int .i64 y) := by rw [h]

set_option maxHeartbeats 4000000 in
theorem afterDigit_any (st : Int) (w : World) (h0 : 0 ≤ st) (h9 : st ≤ 9) : Calls Tryz.prog 125 #[.int .i64 st] w fun r w' => r = .returned (.int .i64 (nd st)) ∧ Below w.heap.size w w' := by
  have hc : st = 0 ∨ st = 1 ∨ st = 2 ∨ st = 3 ∨ st = 4 ∨ st = 5 ∨ st = 6 ∨ st = 7 ∨ st = 8 ∨ st = 9 := by omega
  clear h0 h9
  rcases hc with rfl | rfl | rfl | rfl | rfl | rfl | rfl | rfl | rfl | rfl <;>
  · go_enter Tryz.func125, Tryz.ntmps125
    go_wp2
    go_ret
    exact ⟨rfl, Below.refl _ _⟩

set_option maxHeartbeats 4000000 in
theorem mayEnd_any (st : Int) (w : World) (h0 : 0 ≤ st) (h9 : st ≤ 9) : Calls Tryz.prog 101 #[.int .i64 st] w fun r w' => r = .returned (.bool (decide (st = 3 ∨ st = 4 ∨ st = 6 ∨ st = 9))) ∧ Below w.heap.size w w' := by
  have hc : st = 0 ∨ st = 1 ∨ st = 2 ∨ st = 3 ∨ st = 4 ∨ st = 5 ∨ st = 6 ∨ st = 7 ∨ st = 8 ∨ st = 9 := by omega
  clear h0 h9
  rcases hc with rfl | rfl | rfl | rfl | rfl | rfl | rfl | rfl | rfl | rfl <;>
  · go_enter Tryz.func101, Tryz.ntmps101
    go_wp2
    go_ret
    exact ⟨rfl, Below.refl _ _⟩

end Go.Proofs.YtimfpgpomafflaaGreatDoor

/- Walks of dec.after: signs and the point. -/
namespace Go.Proofs.YtimfpgpomafflaaGreatDoor
open Go.RowKit LM

set_option maxHeartbeats 8000000 in
theorem after_k1 (st c : Int) (w : World) (h0 : 0 ≤ st) (h9 : st ≤ 9) (hcc : c = 43 ∨ c = 45 ∨ c = 46) : Calls Tryz.prog 100 #[.int .i64 st, .int .i32 c] w fun r w' => r = .returned (.int .i64 (nx st c)) ∧ Below w.heap.size w w' := by
  have hD := fun W => afterDigit_any st W h0 h9
  have HD := Lib.hid hD
  clear hD
  have hc : st = 0 ∨ st = 1 ∨ st = 2 ∨ st = 3 ∨ st = 4 ∨ st = 5 ∨ st = 6 ∨ st = 7 ∨ st = 8 ∨ st = 9 := by omega
  clear h0 h9
  rcases hc with rfl | rfl | rfl | rfl | rfl | rfl | rfl | rfl | rfl | rfl <;> rcases hcc with rfl | rfl | rfl
  all_goals
    ( go_enter Tryz.func100, Tryz.ntmps100
      first
        | ( go_wp2
            go_ret
            exact ⟨rfl, Below.refl _ _⟩)
        | ( go_wp2_with (go_at_call 125; refine (HD.out _).mono ?_)
            rintro r w1 ⟨rfl, hb⟩
            go_wp2
            go_ret
            exact ⟨rfl, hb⟩))
end Go.Proofs.YtimfpgpomafflaaGreatDoor

/- Walks of dec.after: 0, e, E. -/
namespace Go.Proofs.YtimfpgpomafflaaGreatDoor
open Go.RowKit LM

set_option maxHeartbeats 8000000 in
theorem after_k2 (st c : Int) (w : World) (h0 : 0 ≤ st) (h9 : st ≤ 9) (hcc : c = 48 ∨ c = 69 ∨ c = 101) : Calls Tryz.prog 100 #[.int .i64 st, .int .i32 c] w fun r w' => r = .returned (.int .i64 (nx st c)) ∧ Below w.heap.size w w' := by
  have hD := fun W => afterDigit_any st W h0 h9
  have HD := Lib.hid hD
  clear hD
  have hc : st = 0 ∨ st = 1 ∨ st = 2 ∨ st = 3 ∨ st = 4 ∨ st = 5 ∨ st = 6 ∨ st = 7 ∨ st = 8 ∨ st = 9 := by omega
  clear h0 h9
  rcases hc with rfl | rfl | rfl | rfl | rfl | rfl | rfl | rfl | rfl | rfl <;> rcases hcc with rfl | rfl | rfl
  all_goals
    ( go_enter Tryz.func100, Tryz.ntmps100
      first
        | ( go_wp2
            go_ret
            exact ⟨rfl, Below.refl _ _⟩)
        | ( go_wp2_with (go_at_call 125; refine (HD.out _).mono ?_)
            rintro r w1 ⟨rfl, hb⟩
            go_wp2
            go_ret
            exact ⟨rfl, hb⟩))
end Go.Proofs.YtimfpgpomafflaaGreatDoor

/- Walks of dec.after: digits but for 0. -/
namespace Go.Proofs.YtimfpgpomafflaaGreatDoor
open Go.RowKit LM

set_option maxHeartbeats 8000000 in
theorem after_dig (st c : Int) (w : World) (h0 : 0 ≤ st) (h9 : st ≤ 9) (d1 : 49 ≤ c) (d2 : c ≤ 57) : Calls Tryz.prog 100 #[.int .i64 st, .int .i32 c] w fun r w' => r = .returned (.int .i64 (nd st)) ∧ Below w.heap.size w w' := by
  have hD := fun W => afterDigit_any st W h0 h9
  have HD := Lib.hid hD
  clear hD
  have hc : st = 0 ∨ st = 1 ∨ st = 2 ∨ st = 3 ∨ st = 4 ∨ st = 5 ∨ st = 6 ∨ st = 7 ∨ st = 8 ∨ st = 9 := by omega
  have e1 : ¬ c = 45 := by omega
  have e2 : ¬ c = 48 := by omega
  have e3 : 48 ≤ c := by omega
  clear h0 h9
  rcases hc with rfl | rfl | rfl | rfl | rfl | rfl | rfl | rfl | rfl | rfl
  all_goals
    ( go_enter Tryz.func100, Tryz.ntmps100
      go_wp2_with (go_at_call 125; refine (HD.out _).mono ?_)
      rintro r w1 ⟨rfl, hb⟩
      go_wp2
      go_ret
      exact ⟨rfl, hb⟩)
end Go.Proofs.YtimfpgpomafflaaGreatDoor

/- Walks of dec.after: all else. -/
namespace Go.Proofs.YtimfpgpomafflaaGreatDoor
open Go.RowKit LM

set_option maxHeartbeats 8000000 in
theorem after_lo (st c : Int) (w : World) (h0 : 0 ≤ st) (h9 : st ≤ 9) (n1 : c ≠ 43) (n2 : c ≠ 45) (n3 : c ≠ 46) (n4 : c ≠ 69) (n5 : c ≠ 101) (n6 : c < 48) : Calls Tryz.prog 100 #[.int .i64 st, .int .i32 c] w fun r w' => r = .returned (.int .i64 0) ∧ Below w.heap.size w w' := by
  have hc : st = 0 ∨ st = 1 ∨ st = 2 ∨ st = 3 ∨ st = 4 ∨ st = 5 ∨ st = 6 ∨ st = 7 ∨ st = 8 ∨ st = 9 := by omega
  have e2 : ¬ c = 48 := by omega
  have e3 : ¬ 48 ≤ c := by omega
  clear h0 h9
  rcases hc with rfl | rfl | rfl | rfl | rfl | rfl | rfl | rfl | rfl | rfl
  all_goals
    ( go_enter Tryz.func100, Tryz.ntmps100
      go_wp2
      go_ret
      exact ⟨rfl, Below.refl _ _⟩)
end Go.Proofs.YtimfpgpomafflaaGreatDoor

/- Walks of dec.after: all else. -/
namespace Go.Proofs.YtimfpgpomafflaaGreatDoor
open Go.RowKit LM

set_option maxHeartbeats 8000000 in
theorem after_hi (st c : Int) (w : World) (h0 : 0 ≤ st) (h9 : st ≤ 9) (n1 : c ≠ 43) (n2 : c ≠ 45) (n3 : c ≠ 46) (n4 : c ≠ 69) (n5 : c ≠ 101) (n6 : 57 < c) : Calls Tryz.prog 100 #[.int .i64 st, .int .i32 c] w fun r w' => r = .returned (.int .i64 0) ∧ Below w.heap.size w w' := by
  have hc : st = 0 ∨ st = 1 ∨ st = 2 ∨ st = 3 ∨ st = 4 ∨ st = 5 ∨ st = 6 ∨ st = 7 ∨ st = 8 ∨ st = 9 := by omega
  have e2 : ¬ c = 48 := by omega
  have e3 : 48 ≤ c := by omega
  have e4 : ¬ c ≤ 57 := by omega
  clear h0 h9
  rcases hc with rfl | rfl | rfl | rfl | rfl | rfl | rfl | rfl | rfl | rfl
  all_goals
    ( go_enter Tryz.func100, Tryz.ntmps100
      go_wp2
      go_ret
      exact ⟨rfl, Below.refl _ _⟩)
end Go.Proofs.YtimfpgpomafflaaGreatDoor

/- Walk of dec.read. -/
namespace Go.Proofs.YtimfpgpomafflaaGreatDoor
open Go.RowKit LM

theorem after_any (st c : Int) (w : World) (h0 : 0 ≤ st) (h9 : st ≤ 9) : Calls Tryz.prog 100 #[.int .i64 st, .int .i32 c] w fun r w' => r = .returned (.int .i64 (nx st c)) ∧ Below w.heap.size w w' := by
  by_cases k1 : c = 43 ∨ c = 45 ∨ c = 46
  · exact after_k1 st c w h0 h9 k1
  by_cases k2 : c = 48 ∨ c = 69 ∨ c = 101
  · exact after_k2 st c w h0 h9 k2
  by_cases kd : 49 ≤ c ∧ c ≤ 57
  · have hv : nx st c = nd st := by unfold nx; rw [if_neg (by omega), if_neg (by omega), if_pos ⟨by omega, kd.2⟩]
    rw [hv]; exact after_dig st c w h0 h9 kd.1 kd.2
  have hv : nx st c = 0 := by unfold nx; rw [if_neg (by omega), if_neg (by omega), if_neg (by omega), if_neg (by omega), if_neg (by omega), if_neg (by omega)]
  rw [hv]
  rcases Int.lt_or_le c 48 with h | h
  · exact after_lo st c w h0 h9 (by omega) (by omega) (by omega) (by omega) (by omega) h
  · exact after_hi st c w h0 h9 (by omega) (by omega) (by omega) (by omega) (by omega) (by omega)

theorem nx_rng (st c : Int) : nx st c = 0 ∨ nx st c = 2 ∨ ((nx st c = 3 ∨ nx st c = 4 ∨ nx st c = 6 ∨ nx st c = 9) ∧ 48 ≤ c ∧ c ≤ 57) ∨ nx st c = 5 ∨ nx st c = 7 ∨ nx st c = 8 := by
  unfold nx nd
  repeat' split
  all_goals omega

structure RS where
  st : Int
  neg : Bool
  ds : List UInt8
  beh : Nat
  down : Bool
  pw : Nat

def rupd (q : RS) (c : Nat) : RS :=
  let t := nx q.st c
  ⟨t, if t = 2 then true else q.neg, if t = 3 ∨ t = 4 ∨ t = 6 then q.ds ++ [UInt8.ofNat c] else q.ds, if t = 6 then q.beh + 1 else q.beh, if t = 8 then decide (c = 45) else q.down, if t = 9 then min (10 * q.pw + (c - 48)) 30000 else q.pw⟩

def rrun (s : ByteArray) : Nat → Nat → RS → Option RS
  | 0, _, q => some q
  | f + 1, pos, q => if pos < s.size then (if nx q.st (Utf8.decode s pos).1 = 0 then none else rrun s f (pos + (Utf8.decode s pos).2) (rupd q (Utf8.decode s pos).1)) else some q

def rs0 : RS := ⟨1, false, [], 0, false, 0⟩

def ResR (s : ByteArray) (w : World) (r : Ending) (w' : World) : Prop :=
  Below w.heap.size w w' ∧ ((rrun s s.size 0 rs0 = none ∧ r = .returned (.tuple #[.agg #[.bool false, .slice none 0 0, .int .i64 0, .bool false, .int .i64 0], .bool false])) ∨
  ∃ q a c, rrun s s.size 0 rs0 = some q ∧ r = .returned (.tuple #[.agg #[.bool q.neg, .slice a q.ds.length c, .int .i64 (q.beh : Nat), .bool q.down, .int .i64 (q.pw : Nat)], .bool (decide (q.st = 3 ∨ q.st = 4 ∨ q.st = 6 ∨ q.st = 9))]) ∧
    Own w' w.heap.size 5 .u8 a c (nb q.ds) ∧ q.pw ≤ 30000 ∧ q.beh ≤ s.size ∧ q.ds.length ≤ s.size)

theorem width_pos (s : ByteArray) (pos : Nat) (h : pos < s.size) : 1 ≤ (Utf8.decode s pos).2 := by
  by_cases ha : (s[pos]'h).toNat < 128
  · rw [decode_ascii s pos h ha]
    exact Nat.le_refl _
  · exact (decode_high s pos h (by omega)).2

theorem iterCell {w : World} {k b o : Nat} {s : ByteArray} {p : Nat} (h : b ≠ k) : (w.iterAt k s p).cell? ⟨b, o, none⟩ = w.cell? ⟨b, o, none⟩ ∧ (w.iterAt k s p).frozen? ⟨b, o, none⟩ = w.frozen? ⟨b, o, none⟩ := by
  have := Lib.iterAt_other w k b s p h
  constructor <;> simp [World.cell?, World.frozen?, this]

theorem gb_iter (w : World) (k : Nat) (s : ByteArray) (p : Nat) : w.grownBy (w.iterAt k s p) (some k) :=
  ⟨rfl, rfl, rfl, by rw [Lib.iterAt_size]; exact Nat.le_refl _, fun i _ hne => Lib.iterAt_other w k i s p (by intro e; exact hne (by rw [e]))⟩

structure RI (s : ByteArray) (w wr : World) (pos : Nat) (q : RS) (ao : Option Addr) (cap : Nat) : Prop where
  c0 : wr.cell? ⟨w.heap.size + 1, 0, none⟩ = some (.bool q.neg)
  c1 : wr.cell? ⟨w.heap.size + 1, 1, none⟩ = some (.slice ao q.ds.length cap)
  c2 : wr.cell? ⟨w.heap.size + 1, 2, none⟩ = some (.int .i64 (q.beh : Nat))
  c3 : wr.cell? ⟨w.heap.size + 1, 3, none⟩ = some (.bool q.down)
  c4 : wr.cell? ⟨w.heap.size + 1, 4, none⟩ = some (.int .i64 (q.pw : Nat))
  f1 : ∀ j, wr.frozen? ⟨w.heap.size + 1, j, none⟩ = false
  f0 : ∀ j, wr.frozen? ⟨w.heap.size, j, none⟩ = false
  res : ∀ j, j < 5 → ∃ x, wr.cell? ⟨w.heap.size, j, none⟩ = some x
  it : wr.heap[w.heap.size + 2]? = some (.stringIter s pos)
  own : Own wr (w.heap.size + 3) 5 .u8 ao cap (nb q.ds)
  bw : Below w.heap.size w wr

variable {s : ByteArray} {w wr : World} {pos : Nat} {q : RS} {ao : Option Addr} {cap : Nat}

theorem RI.lt (h : RI s w wr pos q ao cap) : w.heap.size + 2 < wr.heap.size := (Array.getElem?_eq_some_iff.1 h.it).1

theorem RI.ofBelow (h : RI s w wr pos q ao cap) {w' : World} {ao' : Option Addr} {cap' : Nat} (hb : Below (w.heap.size + 3) wr w') : 
    w'.cell? ⟨w.heap.size + 1, 0, none⟩ = some (.bool q.neg) ∧ w'.cell? ⟨w.heap.size + 1, 1, none⟩ = some (.slice ao q.ds.length cap) ∧ w'.cell? ⟨w.heap.size + 1, 2, none⟩ = some (.int .i64 (q.beh : Nat)) ∧ w'.cell? ⟨w.heap.size + 1, 3, none⟩ = some (.bool q.down) ∧ w'.cell? ⟨w.heap.size + 1, 4, none⟩ = some (.int .i64 (q.pw : Nat)) ∧ (∀ j, w'.frozen? ⟨w.heap.size + 1, j, none⟩ = false) ∧ (∀ j, w'.frozen? ⟨w.heap.size, j, none⟩ = false) ∧ (∀ j, j < 5 → ∃ x, w'.cell? ⟨w.heap.size, j, none⟩ = some x) ∧ w'.heap[w.heap.size + 2]? = some (.stringIter s pos) ∧ Below w.heap.size w w' := by
  refine ⟨?_, ?_, ?_, ?_, ?_, fun j => ?_, fun j => ?_, fun j hj => ?_, ?_, h.bw.trans (hb.mono (by omega))⟩
  · rw [hb.cell (by simp)]; exact h.c0
  · rw [hb.cell (by simp)]; exact h.c1
  · rw [hb.cell (by simp)]; exact h.c2
  · rw [hb.cell (by simp)]; exact h.c3
  · rw [hb.cell (by simp)]; exact h.c4
  · rw [hb.frozen (by simp)]; exact h.f1 j
  · rw [hb.frozen (by simp)]; exact h.f0 j
  · rw [hb.cell (by simp)]; exact h.res j hj
  · rw [hb.block _ (by omega)]; exact h.it

theorem RI.below (h : RI s w wr pos q ao cap) {w' : World} (hb : Below wr.heap.size wr w') : RI s w w' pos q ao cap := by
  obtain ⟨a0, a1, a2, a3, a4, a5, a6, a7, a8, a9⟩ := h.ofBelow (ao' := ao) (cap' := cap) (hb.mono (by have := h.lt; omega))
  exact ⟨a0, a1, a2, a3, a4, a5, a6, a7, a8, h.own.below hb, a9⟩

theorem RI.iter (h : RI s w wr pos q ao cap) (p : Nat) : RI s w (wr.iterAt (w.heap.size + 2) s p) p q ao cap := by
  have k1 := fun o => iterCell (w := wr) (k := w.heap.size + 2) (b := w.heap.size + 1) (o := o) (s := s) (p := p) (by omega)
  have k0 := fun o => iterCell (w := wr) (k := w.heap.size + 2) (b := w.heap.size) (o := o) (s := s) (p := p) (by omega)
  exact ⟨by rw [(k1 0).1]; exact h.c0, by rw [(k1 1).1]; exact h.c1, by rw [(k1 2).1]; exact h.c2, by rw [(k1 3).1]; exact h.c3, by rw [(k1 4).1]; exact h.c4, fun j => by rw [(k1 j).2]; exact h.f1 j, fun j => by rw [(k0 j).2]; exact h.f0 j, fun j hj => by rw [(k0 j).1]; exact h.res j hj,
    Lib.iterAt_heap wr _ s pos p h.it, h.own.gb (gb_iter _ _ _ _) (h.own.apart (by omega)), Lib.below_iterAt h.bw (by omega) s p⟩

theorem setHeap {w : World} {b o k : Nat} {v : Value} (h : k ≠ b) : (w.setCell ⟨b, o, none⟩ v).heap[k]? = w.heap[k]? := by
  have := (gb_set (gb_refl w (some b)) o v).block
  rcases Nat.lt_or_ge k w.heap.size with hk | hk
  · exact this k hk (by intro e; exact h (by simpa using e))
  · have hs : (w.setCell ⟨b, o, none⟩ v).heap.size = w.heap.size := by simp
    rw [Array.getElem?_eq_none hk, Array.getElem?_eq_none (by rw [hs]; exact hk)]

theorem RI.set0 (h : RI s w wr pos q ao cap) (b : Bool) : RI s w (wr.setCell ⟨w.heap.size + 1, 0, none⟩ (.bool b)) pos { q with neg := b } ao cap := by
  obtain ⟨c0, c1, c2, c3, c4, f1, f0, res, it, own, bw⟩ := h
  exact ⟨by simp [go_sem, c0], by simp [go_sem, c1], by simp [go_sem, c2], by simp [go_sem, c3], by simp [go_sem, c4], fun j => by simp [go_sem, f1], fun j => by simp [go_sem, f0], fun j hj => by obtain ⟨x, hx⟩ := res j hj; exact ⟨x, by simp [go_sem, hx]⟩, by rw [setHeap (by omega)]; exact it, own.setFar (own.apart (by omega)) _ _, bw.setCell (by simp) _⟩
theorem RI.set2 (h : RI s w wr pos q ao cap) (n : Nat) : RI s w (wr.setCell ⟨w.heap.size + 1, 2, none⟩ (.int .i64 (n : Nat))) pos { q with beh := n } ao cap := by
  obtain ⟨c0, c1, c2, c3, c4, f1, f0, res, it, own, bw⟩ := h
  exact ⟨by simp [go_sem, c0], by simp [go_sem, c1], by simp [go_sem, c2], by simp [go_sem, c3], by simp [go_sem, c4], fun j => by simp [go_sem, f1], fun j => by simp [go_sem, f0], fun j hj => by obtain ⟨x, hx⟩ := res j hj; exact ⟨x, by simp [go_sem, hx]⟩, by rw [setHeap (by omega)]; exact it, own.setFar (own.apart (by omega)) _ _, bw.setCell (by simp) _⟩
theorem RI.set3 (h : RI s w wr pos q ao cap) (b : Bool) : RI s w (wr.setCell ⟨w.heap.size + 1, 3, none⟩ (.bool b)) pos { q with down := b } ao cap := by
  obtain ⟨c0, c1, c2, c3, c4, f1, f0, res, it, own, bw⟩ := h
  exact ⟨by simp [go_sem, c0], by simp [go_sem, c1], by simp [go_sem, c2], by simp [go_sem, c3], by simp [go_sem, c4], fun j => by simp [go_sem, f1], fun j => by simp [go_sem, f0], fun j hj => by obtain ⟨x, hx⟩ := res j hj; exact ⟨x, by simp [go_sem, hx]⟩, by rw [setHeap (by omega)]; exact it, own.setFar (own.apart (by omega)) _ _, bw.setCell (by simp) _⟩
theorem RI.set4 (h : RI s w wr pos q ao cap) (n : Nat) : RI s w (wr.setCell ⟨w.heap.size + 1, 4, none⟩ (.int .i64 (n : Nat))) pos { q with pw := n } ao cap := by
  obtain ⟨c0, c1, c2, c3, c4, f1, f0, res, it, own, bw⟩ := h
  exact ⟨by simp [go_sem, c0], by simp [go_sem, c1], by simp [go_sem, c2], by simp [go_sem, c3], by simp [go_sem, c4], fun j => by simp [go_sem, f1], fun j => by simp [go_sem, f0], fun j hj => by obtain ⟨x, hx⟩ := res j hj; exact ⟨x, by simp [go_sem, hx]⟩, by rw [setHeap (by omega)]; exact it, own.setFar (own.apart (by omega)) _ _, bw.setCell (by simp) _⟩
theorem RI.push (h : RI s w wr pos q ao cap) {w2 : World} {ao2 : Option Addr} {cap2 : Nat} {l : List UInt8} (hb : Below (w.heap.size + 3) wr w2) (ho : Own w2 (w.heap.size + 3) 5 .u8 ao2 cap2 (nb l)) (n : Nat) (hn : n = l.length) :
    RI s w (w2.setCell ⟨w.heap.size + 1, 1, none⟩ (.slice ao2 n cap2)) pos { q with ds := l } ao2 cap2 := by
  subst hn
  obtain ⟨c0, c1, c2, c3, c4, f1, f0, res, it, bw⟩ := h.ofBelow (ao' := ao) (cap' := cap) hb
  exact ⟨by simp [go_sem, c0], by simp [go_sem, c1], by simp [go_sem, c2], by simp [go_sem, c3], by simp [go_sem, c4], fun j => by simp [go_sem, f1], fun j => by simp [go_sem, f0], fun j hj => by obtain ⟨x, hx⟩ := res j hj; exact ⟨x, by simp [go_sem, hx]⟩, by rw [setHeap (by omega)]; exact it, ho.setFar (ho.apart (by omega)) _ _, bw.setCell (by simp) _⟩
end Go.Proofs.YtimfpgpomafflaaGreatDoor

/- Walk of dec.read: the loop. -/
namespace Go.Proofs.YtimfpgpomafflaaGreatDoor
open Go.RowKit LM

theorem rrun_go {s : ByteArray} {f pos : Nat} {q : RS} (hp : pos < s.size) (h : nx q.st (Utf8.decode s pos).1 ≠ 0) : rrun s (f + 1) pos q = rrun s f (pos + (Utf8.decode s pos).2) (rupd q (Utf8.decode s pos).1) := by
  rw [rrun, if_pos hp, if_neg h]
theorem rrun_no {s : ByteArray} {f pos : Nat} {q : RS} (hp : pos < s.size) (h : nx q.st (Utf8.decode s pos).1 = 0) : rrun s (f + 1) pos q = none := by
  rw [rrun, if_pos hp, if_pos h]
theorem rrun_end {s : ByteArray} {f pos : Nat} {q : RS} (hp : ¬ pos < s.size) : rrun s f pos q = some q := by
  cases f with
  | zero => rfl
  | succ f => rw [rrun, if_neg hp]

theorem rupd_at (q : RS) (c : Nat) {t : Int} (h : nx q.st c = t) : rupd q c = ⟨t, if t = 2 then true else q.neg, if t = 3 ∨ t = 4 ∨ t = 6 then q.ds ++ [UInt8.ofNat c] else q.ds, if t = 6 then q.beh + 1 else q.beh, if t = 8 then decide (c = 45) else q.down, if t = 9 then min (10 * q.pw + (c - 48)) 30000 else q.pw⟩ := by
  subst h; rfl
theorem RI.withSt {s : ByteArray} {w wr : World} {pos : Nat} {q : RS} {ao : Option Addr} {cap : Nat} (h : RI s w wr pos q ao cap) (t : Int) : RI s w wr pos { q with st := t } ao cap := ⟨h.c0, h.c1, h.c2, h.c3, h.c4, h.f1, h.f0, h.res, h.it, h.own, h.bw⟩
theorem nb_one (l : List UInt8) (c : Nat) (h : c < 256) : nb l ++ [c] = nb (l ++ [UInt8.ofNat c]) := by simp [nb, Nat.mod_eq_of_lt h]
theorem nb_len1 (l : List UInt8) (x : UInt8) : l.length + 1 = (l ++ [x]).length := by simp
theorem it_less {w w' : World} {k pos p2 : Nat} {s : ByteArray} (h : w.heap[k]? = some (.stringIter s pos)) (h' : w'.heap[k]? = some (.stringIter s p2)) (h1 : pos < s.size) (h2 : pos < p2) : s.size - w'.iterPos k < s.size - w.iterPos k := by
  simp only [World.iterPos, h, h']; omega

set_option maxHeartbeats 16000000 in
theorem read_any (s : ByteArray) (w : World) (hs : s.size ≤ 140737488351232) : Calls Tryz.prog 68 #[.string s] w (ResR s w) := by
  have hA := fun st c W h0 h9 => after_any st c W h0 h9
  have HA := Lib.hid hA
  clear hA
  go_enter Tryz.func68, Tryz.ntmps68
  go_wp2
  go_loopw [5] (fun v5 wr => ∃ (pos fuel : Nat) (q : RS) (ao : Option Addr) (cap : Nat), v5 = .int .i64 q.st ∧ 1 ≤ q.st ∧ q.st ≤ 9 ∧ q.pw ≤ 30000 ∧ q.beh + fuel ≤ s.size ∧ q.ds.length + fuel ≤ s.size ∧ s.size ≤ pos + fuel ∧
    RI s w wr pos q ao cap ∧ Hid (rrun s s.size 0 rs0 = rrun s fuel pos q)) (fun _ wr => s.size - wr.iterPos (w.heap.size + 2))
  case atStart =>
    refine ⟨0, s.size, rs0, none, 0, rfl, by decide, by decide, by decide, by show 0 + s.size ≤ _; omega, by show 0 + s.size ≤ _; omega, by omega, ?_, (rfl : rrun s s.size 0 rs0 = _)⟩
    have hi := World.iter_heap ((w.alloc (.cells #[.bool false, .slice none 0 0, .int .i64 0, .bool false, .int .i64 0] 90)).alloc (.cells #[.bool false, .slice none 0 0, .int .i64 0, .bool false, .int .i64 0] 90)) s 0
    have hb := (((Below.refl w.heap.size w).alloc (Nat.le_refl _) (.cells #[.bool false, .slice none 0 0, .int .i64 0, .bool false, .int .i64 0] 90)).alloc (by simp) (.cells #[.bool false, .slice none 0 0, .int .i64 0, .bool false, .int .i64 0] 90))
    have a1 : ∀ o, o < 5 → ((w.alloc (.cells #[.bool false, .slice none 0 0, .int .i64 0, .bool false, .int .i64 0] 90)).alloc (.cells #[.bool false, .slice none 0 0, .int .i64 0, .bool false, .int .i64 0] 90)).cell? ⟨w.heap.size + 1, o, none⟩ = (#[Value.bool false, .slice none 0 0, .int .i64 0, .bool false, .int .i64 0])[o]? := fun o ho => by simp
    have a0 : ∀ o, o < 5 → ((w.alloc (.cells #[.bool false, .slice none 0 0, .int .i64 0, .bool false, .int .i64 0] 90)).alloc (.cells #[.bool false, .slice none 0 0, .int .i64 0, .bool false, .int .i64 0] 90)).cell? ⟨w.heap.size, o, none⟩ = (#[Value.bool false, .slice none 0 0, .int .i64 0, .bool false, .int .i64 0])[o]? := fun o ho => by simp
    have z1 : ∀ o, ((w.alloc (.cells #[.bool false, .slice none 0 0, .int .i64 0, .bool false, .int .i64 0] 90)).alloc (.cells #[.bool false, .slice none 0 0, .int .i64 0, .bool false, .int .i64 0] 90)).frozen? ⟨w.heap.size + 1, o, none⟩ = false := fun o => by simp
    have z0 : ∀ o, ((w.alloc (.cells #[.bool false, .slice none 0 0, .int .i64 0, .bool false, .int .i64 0] 90)).alloc (.cells #[.bool false, .slice none 0 0, .int .i64 0, .bool false, .int .i64 0] 90)).frozen? ⟨w.heap.size, o, none⟩ = false := fun o => by simp
    have m1 : ((w.alloc (.cells #[.bool false, .slice none 0 0, .int .i64 0, .bool false, .int .i64 0] 90)).alloc (.cells #[.bool false, .slice none 0 0, .int .i64 0, .bool false, .int .i64 0] 90)).heap.size = w.heap.size + 2 := by simp
    generalize ((w.alloc (.cells #[.bool false, .slice none 0 0, .int .i64 0, .bool false, .int .i64 0] 90)).alloc (.cells #[.bool false, .slice none 0 0, .int .i64 0, .bool false, .int .i64 0] 90)) = W at *
    have hI : Below W.heap.size W (W.iter s 0) := (Below.refl _ _).alloc (Nat.le_refl _) (.stringIter s 0)
    refine ⟨?_, ?_, ?_, ?_, ?_, fun j => ?_, fun j => ?_, fun j hj => ⟨(#[Value.bool false, .slice none 0 0, .int .i64 0, .bool false, .int .i64 0])[j]'(by simpa using hj), ?_⟩, by rw [← m1]; simpa using hi, Own.nilNone _ _ _ _, hb.trans (hI.mono (by omega))⟩
    · rw [hI.cell (by simp; omega), a1 0 (by omega)]; rfl
    · rw [hI.cell (by simp; omega), a1 1 (by omega)]; rfl
    · rw [hI.cell (by simp; omega), a1 2 (by omega)]; rfl
    · rw [hI.cell (by simp; omega), a1 3 (by omega)]; rfl
    · rw [hI.cell (by simp; omega), a1 4 (by omega)]; rfl
    · rw [hI.frozen (by simp; omega)]; exact z1 j
    · rw [hI.frozen (by simp; omega)]; exact z0 j
    · rw [hI.cell (by simp; omega), a0 j hj]; simp [hj]
  case round =>
    obtain ⟨pos, fuel, q, ao, cap, rfl, hq1, hq9, hpw, hbe, hdl, hfu, I, HR⟩ := hrel
    have hit := I.it
    by_cases hp : pos < s.size
    · have hnx : ∀ ty, (Instr.next (.pointer (some ⟨w.heap.size + 2, 0, none⟩)) true ty).run Tryz.prog wr = _ := fun ty => Lib.run_next_any_at wr (w.heap.size + 2) s pos ty hit hp
      have hwd := width_pos s pos hp
      have hd1 := decode_le s pos
      obtain ⟨f, rfl⟩ : ∃ f, fuel = f + 1 := ⟨fuel - 1, by omega⟩
      have I2 := I.iter (pos + (Utf8.decode s pos).2)
      go_wp2_with (go_at_call 100; refine (HA.out _ _ _ (by omega) hq9).mono ?_)
      rintro r w1 ⟨rfl, hb1⟩
      have I3 := I2.below hb1
      have hrng := nx_rng q.st (Utf8.decode s pos).1
      have hgo := fun h => HR.out.trans (rrun_go (f := f) (q := q) hp h)
      have hno := fun h => HR.out.trans (rrun_no (f := f) (q := q) hp h)
      have HG := Lib.hid hgo; have HN := Lib.hid hno; have HIT := Lib.hid hit
      clear hgo hno hnx hit I I2 hb1
      generalize (Utf8.decode s pos).1 = cn at *
      generalize (Utf8.decode s pos).2 = wd at *
      obtain ⟨k0, k1, k2, k3, k4, kf1, kf0, kres, kit, kown, kbw⟩ := id I3
      have KRES := Lib.hid kres; have KIT := Lib.hid kit
      clear kres kit
      rcases hrng with ht | ht | ⟨ht | ht | ht | ht, g1, g2⟩ | ht | ht | ht
      · -- wrong
        have hn := HN.out ht
        have HNN := Lib.hid hn
        obtain ⟨x0, e0⟩ := KRES.out 0 (by omega)
        obtain ⟨x1, e1⟩ := KRES.out 1 (by omega)
        obtain ⟨x2, e2⟩ := KRES.out 2 (by omega)
        obtain ⟨x3, e3⟩ := KRES.out 3 (by omega)
        obtain ⟨x4, e4⟩ := KRES.out 4 (by omega)
        rw [ht]
        clear hn kown
        go_wp2
        refine bodyPost_ret (v := .tuple #[.agg #[.bool false, .slice none 0 0, .int .i64 0, .bool false, .int .i64 0], .bool false]) (by simp [results, Tryz.results68, go_sem, e0, e1, e2, e3, e4]) rfl ?_
        exact ⟨((((kbw.setCell (Nat.le_refl _) _).setCell (Nat.le_refl _) _).setCell (Nat.le_refl _) _).setCell (Nat.le_refl _) _).setCell (Nat.le_refl _) _, .inl ⟨HNN.out, rfl⟩⟩
      · -- minus
        have J := (I3.set0 true).withSt 2
        have HE := Lib.hid ((HG.out (by rw [ht]; decide)).trans (by rw [rupd_at q cn ht]; rfl : rrun s f (pos + wd) (rupd q cn) = rrun s f (pos + wd) { q with neg := true, st := 2 }))
        rw [ht]
        go_wp2
        go_roundw
        case rel => exact ⟨pos + wd, f, { q with neg := true, st := 2 }, ao, cap, rfl, by simp, by simp, hpw, by show q.beh + f ≤ _; omega, by show q.ds.length + f ≤ _; omega, by omega, J, HE⟩
        case measure => exact it_less HIT.out J.it hp (by omega)
      · -- nought
        have hl : q.ds.length = (nb q.ds).length := (nb_length _).symm
        have hd2 : ((nb q.ds).length + 1) * 1 ≤ 140737488355328 := by rw [nb_length]; omega
        have hd3 : (nb q.ds).length + 1 ≤ maxLen := by rw [nb_length]; unfold maxLen; omega
        have hsz3 : w.heap.size + 3 ≤ w1.heap.size := I3.lt
        have HL := Lib.hid hl
        clear hl
        rw [ht]
        go_wp2_with (at_builtin; refine wp_push w1 rfl _ _ 50 rfl (w.heap.size + 3) 5 .u8 1 Tryz.underlying50 infoU8 ao cap q.ds.length (nb q.ds) HL.out rfl _ cn (by omega) _ rfl kown hd2 hd3 hsz3 ?_)
        intro ao5 cap5 w5 hown5 hb5
        rw [nb_one _ _ (by omega)] at hown5
        obtain ⟨b0, b1, b2, b3, b4, bf1, bf0, bres, bit, bbw⟩ := I3.ofBelow (ao' := ao) (cap' := cap) hb5
        have J := (I3.push hb5 hown5 (q.ds.length + 1) (nb_len1 _ _)).withSt 3
        have HE := Lib.hid ((HG.out (by rw [ht]; decide)).trans (by rw [rupd_at q cn ht]; rfl : rrun s f (pos + wd) (rupd q cn) = rrun s f (pos + wd) { q with ds := q.ds ++ [UInt8.ofNat cn], st := 3 }))
        clear bres bit kown k0 k1 k2 k3 k4 kf1 kf0 hown5
        go_wp2
        go_roundw
        case rel => exact ⟨pos + wd, f, { q with ds := q.ds ++ [UInt8.ofNat cn], st := 3 }, ao5, cap5, rfl, by simp, by simp, hpw, by show q.beh + f ≤ _; omega, by rw [← nb_len1]; omega, by omega, J, HE⟩
        case measure => exact it_less HIT.out J.it hp (by omega)
      · have hl : q.ds.length = (nb q.ds).length := (nb_length _).symm
        have hd2 : ((nb q.ds).length + 1) * 1 ≤ 140737488355328 := by rw [nb_length]; omega
        have hd3 : (nb q.ds).length + 1 ≤ maxLen := by rw [nb_length]; unfold maxLen; omega
        have hsz3 : w.heap.size + 3 ≤ w1.heap.size := I3.lt
        have HL := Lib.hid hl
        clear hl
        rw [ht]
        go_wp2_with (at_builtin; refine wp_push w1 rfl _ _ 50 rfl (w.heap.size + 3) 5 .u8 1 Tryz.underlying50 infoU8 ao cap q.ds.length (nb q.ds) HL.out rfl _ cn (by omega) _ rfl kown hd2 hd3 hsz3 ?_)
        intro ao5 cap5 w5 hown5 hb5
        rw [nb_one _ _ (by omega)] at hown5
        obtain ⟨b0, b1, b2, b3, b4, bf1, bf0, bres, bit, bbw⟩ := I3.ofBelow (ao' := ao) (cap' := cap) hb5
        have J := (I3.push hb5 hown5 (q.ds.length + 1) (nb_len1 _ _)).withSt 4
        have HE := Lib.hid ((HG.out (by rw [ht]; decide)).trans (by rw [rupd_at q cn ht]; rfl : rrun s f (pos + wd) (rupd q cn) = rrun s f (pos + wd) { q with ds := q.ds ++ [UInt8.ofNat cn], st := 4 }))
        clear bres bit kown k0 k1 k2 k3 k4 kf1 kf0 hown5
        go_wp2
        go_roundw
        case rel => exact ⟨pos + wd, f, { q with ds := q.ds ++ [UInt8.ofNat cn], st := 4 }, ao5, cap5, rfl, by simp, by simp, hpw, by show q.beh + f ≤ _; omega, by rw [← nb_len1]; omega, by omega, J, HE⟩
        case measure => exact it_less HIT.out J.it hp (by omega)
      · have hl : q.ds.length = (nb q.ds).length := (nb_length _).symm
        have hd2 : ((nb q.ds).length + 1) * 1 ≤ 140737488355328 := by rw [nb_length]; omega
        have hd3 : (nb q.ds).length + 1 ≤ maxLen := by rw [nb_length]; unfold maxLen; omega
        have hsz3 : w.heap.size + 3 ≤ w1.heap.size := I3.lt
        have HL := Lib.hid hl
        clear hl
        rw [ht]
        go_wp2_with (at_builtin; refine wp_push w1 rfl _ _ 50 rfl (w.heap.size + 3) 5 .u8 1 Tryz.underlying50 infoU8 ao cap q.ds.length (nb q.ds) HL.out rfl _ cn (by omega) _ rfl kown hd2 hd3 hsz3 ?_)
        intro ao5 cap5 w5 hown5 hb5
        rw [nb_one _ _ (by omega)] at hown5
        obtain ⟨b0, b1, b2, b3, b4, bf1, bf0, bres, bit, bbw⟩ := I3.ofBelow (ao' := ao) (cap' := cap) hb5
        have J := (I3.push hb5 hown5 (q.ds.length + 1) (nb_len1 _ _)).set2 (q.beh + 1) |>.withSt 6
        have HE := Lib.hid ((HG.out (by rw [ht]; decide)).trans (by rw [rupd_at q cn ht]; rfl : rrun s f (pos + wd) (rupd q cn) = rrun s f (pos + wd) { q with ds := q.ds ++ [UInt8.ofNat cn], st := 6, beh := q.beh + 1 }))
        clear bres bit kown k0 k1 k2 k3 k4 kf1 kf0 hown5
        go_wp2
        go_roundw
        case rel => exact ⟨pos + wd, f, { q with ds := q.ds ++ [UInt8.ofNat cn], st := 6, beh := q.beh + 1 }, ao5, cap5, rfl, by simp, by simp, hpw, by show q.beh + 1 + f ≤ _; omega, by rw [← nb_len1]; omega, by omega, J, HE⟩
        case measure => exact it_less HIT.out J.it hp (by omega)
      · -- power
        have e9 : min (10 * (q.pw : Int) + ((cn : Int) - 48)) 30000 = ((min (10 * q.pw + (cn - 48)) 30000 : Nat) : Int) := by omega
        have J := (I3.set4 (min (10 * q.pw + (cn - 48)) 30000)).withSt 9
        rw [← e9] at J
        have HE := Lib.hid ((HG.out (by rw [ht]; decide)).trans (by rw [rupd_at q cn ht]; rfl : rrun s f (pos + wd) (rupd q cn) = rrun s f (pos + wd) { q with pw := min (10 * q.pw + (cn - 48)) 30000, st := 9 }))
        clear e9
        rw [ht]
        go_wp2
        go_roundw
        case rel => exact ⟨pos + wd, f, { q with pw := min (10 * q.pw + (cn - 48)) 30000, st := 9 }, ao, cap, rfl, by simp, by simp, Nat.min_le_right _ _, by show q.beh + f ≤ _; omega, by show q.ds.length + f ≤ _; omega, by omega, J, HE⟩
        case measure => exact it_less HIT.out J.it hp (by omega)
      · have J := I3.withSt 5
        have HE := Lib.hid ((HG.out (by rw [ht]; decide)).trans (by rw [rupd_at q cn ht]; rfl : rrun s f (pos + wd) (rupd q cn) = rrun s f (pos + wd) { q with st := 5 }))
        rw [ht]
        go_wp2
        go_roundw
        case rel => exact ⟨pos + wd, f, { q with st := 5 }, ao, cap, rfl, by simp, by simp, hpw, by show q.beh + f ≤ _; omega, by show q.ds.length + f ≤ _; omega, by omega, J, HE⟩
        case measure => exact it_less HIT.out J.it hp (by omega)
      · have J := I3.withSt 7
        have HE := Lib.hid ((HG.out (by rw [ht]; decide)).trans (by rw [rupd_at q cn ht]; rfl : rrun s f (pos + wd) (rupd q cn) = rrun s f (pos + wd) { q with st := 7 }))
        rw [ht]
        go_wp2
        go_roundw
        case rel => exact ⟨pos + wd, f, { q with st := 7 }, ao, cap, rfl, by simp, by simp, hpw, by show q.beh + f ≤ _; omega, by show q.ds.length + f ≤ _; omega, by omega, J, HE⟩
        case measure => exact it_less HIT.out J.it hp (by omega)
      · have e8 : ((cn : Int) == 45) = decide (cn = 45) := by rw [Bool.eq_iff_iff]; simp; omega
        have J := (I3.set3 (decide (cn = 45))).withSt 8
        rw [← e8] at J
        have HE := Lib.hid ((HG.out (by rw [ht]; decide)).trans (by rw [rupd_at q cn ht]; rfl : rrun s f (pos + wd) (rupd q cn) = rrun s f (pos + wd) { q with down := decide (cn = 45), st := 8 }))
        rw [← e8] at HE
        clear e8
        rw [ht]
        go_wp2
        go_roundw
        case rel => exact ⟨pos + wd, f, { q with down := ((cn : Int) == 45), st := 8 }, ao, cap, rfl, by simp, by simp, hpw, by show q.beh + f ≤ _; omega, by show q.ds.length + f ≤ _; omega, by omega, J, HE⟩
        case measure => exact it_less HIT.out J.it hp (by omega)
    · have hnx : ∀ ty, (Instr.next (.pointer (some ⟨w.heap.size + 2, 0, none⟩)) true ty).run Tryz.prog wr = _ := fun ty => Lib.run_next_end_at wr (w.heap.size + 2) s pos ty hit hp
      have hfin := HR.out.trans (rrun_end (f := fuel) (q := q) hp)
      have HFIN := Lib.hid hfin
      obtain ⟨k0, k1, k2, k3, k4, kf1, kf0, kres, kit, kown, kbw⟩ := id I
      clear hfin kres kown kf0
      go_wp2_with fail
      go_region_held3 (fun w' => w'.cell? ⟨w.heap.size + 1, 0, none⟩ = some (.bool q.neg) ∧ w'.cell? ⟨w.heap.size + 1, 1, none⟩ = some (.slice ao q.ds.length cap) ∧ w'.cell? ⟨w.heap.size + 1, 2, none⟩ = some (.int .i64 (q.beh : Nat)) ∧ w'.cell? ⟨w.heap.size + 1, 3, none⟩ = some (.bool q.down) ∧ w'.cell? ⟨w.heap.size + 1, 4, none⟩ = some (.int .i64 (q.pw : Nat))) (first | go_keep | exact ⟨i0, i1, i2, i3, i4⟩)
        ((go_at_call 101; refine (mayEnd_any q.st _ (by omega) hq9).mono ?_; rintro e w2 ⟨rfl, hb2⟩; have I4 := I.below ((Below.refl wr.heap.size wr).drew.trans hb2); obtain ⟨i0, i1, i2, i3, i4, if1, if0, ires, iit, iown, ibw⟩ := id I4; obtain ⟨x0, e0⟩ := ires 0 (by omega); obtain ⟨x1, e1⟩ := ires 1 (by omega); obtain ⟨x2, e2⟩ := ires 2 (by omega); obtain ⟨x3, e3⟩ := ires 3 (by omega); obtain ⟨x4, e4⟩ := ires 4 (by omega); clear ires iit))
      go_wp2
      refine bodyPost_ret (v := .tuple #[.agg #[.bool q.neg, .slice ao q.ds.length cap, .int .i64 (q.beh : Nat), .bool q.down, .int .i64 (q.pw : Nat)], .bool (decide (q.st = 3 ∨ q.st = 4 ∨ q.st = 6 ∨ q.st = 9))]) (by simp [results, Tryz.results68, go_sem, e0, e1, e2, e3, e4]) rfl ?_
      have ap := iown.apart (show w.heap.size < w.heap.size + 3 by omega)
      exact ⟨((((ibw.setCell (Nat.le_refl _) _).setCell (Nat.le_refl _) _).setCell (Nat.le_refl _) _).setCell (Nat.le_refl _) _).setCell (Nat.le_refl _) _, .inr ⟨q, ao, cap, HFIN.out, rfl, (((((iown.mono (by omega)).setFar ap _ _).setFar ap _ _).setFar ap _ _).setFar ap _ _).setFar ap _ _, hpw, by omega, by omega⟩⟩
end Go.Proofs.YtimfpgpomafflaaGreatDoor

/- Walk of dec.Parse. -/
namespace Go.Proofs.YtimfpgpomafflaaGreatDoor
open Go.RowKit LM

def expo (q : RS) : Int := (if q.down then -(q.pw : Int) else q.pw) - q.beh
def endOk (q : RS) : Bool := decide (q.st = 3 ∨ q.st = 4 ∨ q.st = 6 ∨ q.st = 9)
def prsA (s : ByteArray) : Ans :=
  match rrun s s.size 0 rs0 with
  | none => ⟨2, zP⟩
  | some q => if endOk q = true then (if 1000 < s.size then ⟨3, zP⟩ else tellA q.neg (dv q.ds) (expo q)) else ⟨2, zP⟩

def goodR (q : RS) : Prop := (∀ c ∈ q.ds, isD c = true) ∧ (q.st = 1 ∨ q.st = 2 ∨ q.ds ≠ [])

theorem isD_of {c : Nat} (h1 : 48 ≤ (c : Int)) (h2 : (c : Int) ≤ 57) : isD (UInt8.ofNat c) = true := by
  have e : (UInt8.ofNat c).toNat = c := by simp; omega
  unfold isD; rw [e]; simp; omega

theorem nx_back (st c : Int) (h : nx st c = 5 ∨ nx st c = 7 ∨ nx st c = 8 ∨ nx st c = 9) : st ≠ 1 ∧ st ≠ 2 := by
  unfold nx nd at h
  repeat' split at h
  all_goals omega

theorem good_step {q : RS} {c : Nat} (h : goodR q) (h0 : nx q.st c ≠ 0) : goodR (rupd q c) := by
  obtain ⟨hd, hn⟩ := h
  have hb := nx_back q.st c
  rcases nx_rng q.st c with ht | ht | ⟨ht | ht | ht | ht, g1, g2⟩ | ht | ht | ht
  · exact absurd ht h0
  · rw [rupd_at q c ht]; exact ⟨hd, .inr (.inl rfl)⟩
  · rw [rupd_at q c ht]; exact ⟨fun x hx => by simp at hx; rcases hx with hx | rfl; exact hd x hx; exact isD_of g1 g2, .inr (.inr (by simp))⟩
  · rw [rupd_at q c ht]; exact ⟨fun x hx => by simp at hx; rcases hx with hx | rfl; exact hd x hx; exact isD_of g1 g2, .inr (.inr (by simp))⟩
  · rw [rupd_at q c ht]; exact ⟨fun x hx => by simp at hx; rcases hx with hx | rfl; exact hd x hx; exact isD_of g1 g2, .inr (.inr (by simp))⟩
  · rw [rupd_at q c ht]; have := hb (by omega); exact ⟨hd, .inr (.inr (by rcases hn with h | h | h; exact absurd h this.1; exact absurd h this.2; exact h))⟩
  · rw [rupd_at q c ht]; have := hb (by omega); exact ⟨hd, .inr (.inr (by rcases hn with h | h | h; exact absurd h this.1; exact absurd h this.2; exact h))⟩
  · rw [rupd_at q c ht]; have := hb (by omega); exact ⟨hd, .inr (.inr (by rcases hn with h | h | h; exact absurd h this.1; exact absurd h this.2; exact h))⟩
  · rw [rupd_at q c ht]; have := hb (by omega); exact ⟨hd, .inr (.inr (by rcases hn with h | h | h; exact absurd h this.1; exact absurd h this.2; exact h))⟩

theorem rrun_good (s : ByteArray) : ∀ f pos q q', goodR q → rrun s f pos q = some q' → goodR q' := by
  intro f
  induction f with
  | zero => intro pos q q' h e; cases e; exact h
  | succ f ih =>
    intro pos q q' h e
    rw [rrun] at e
    split at e
    · split at e
      · cases e
      · rename_i h1 h2; exact ih _ _ _ (good_step h h2) e
    · cases e; exact h

theorem okD_good {q : RS} (h : goodR q) (he : endOk q = true) : okD (txt q.ds) = true := by
  have h1 := of_decide_eq_true he
  unfold okD
  rw [txt_list]
  have h2 : q.ds ≠ [] := by rcases h.2 with e | e | e; omega; omega; exact e
  have h3 : q.ds.all isD = true := List.all_eq_true.2 h.1
  rw [h3]; cases hd : q.ds with
  | nil => exact absurd hd h2
  | cons a l => rfl

theorem zeroRes {w1 : World} {b : Nat} {x0 x1 x2 : Value} (k0 : w1.cell? ⟨b, 0, none⟩ = some x0) (k1 : w1.cell? ⟨b, 1, none⟩ = some x1) (k2 : w1.cell? ⟨b, 2, none⟩ = some x2) (o : Obj) :
    ((((w1.setCell ⟨b, 0, none⟩ (.bool false)).setCell ⟨b, 1, none⟩ (.slice none 0 0)).setCell ⟨b, 2, none⟩ (.int .i64 0)).alloc o).cell? ⟨b, 0, none⟩ = some (.bool false) ∧
    ((((w1.setCell ⟨b, 0, none⟩ (.bool false)).setCell ⟨b, 1, none⟩ (.slice none 0 0)).setCell ⟨b, 2, none⟩ (.int .i64 0)).alloc o).cell? ⟨b, 1, none⟩ = some (.slice none 0 0) ∧
    ((((w1.setCell ⟨b, 0, none⟩ (.bool false)).setCell ⟨b, 1, none⟩ (.slice none 0 0)).setCell ⟨b, 2, none⟩ (.int .i64 0)).alloc o).cell? ⟨b, 2, none⟩ = some (.int .i64 0) := by
  have s0 : (((w1.setCell ⟨b, 0, none⟩ (.bool false)).setCell ⟨b, 1, none⟩ (.slice none 0 0)).setCell ⟨b, 2, none⟩ (.int .i64 0)).cell? ⟨b, 0, none⟩ = some (.bool false) := by simp [go_sem, k0]
  have s1 : (((w1.setCell ⟨b, 0, none⟩ (.bool false)).setCell ⟨b, 1, none⟩ (.slice none 0 0)).setCell ⟨b, 2, none⟩ (.int .i64 0)).cell? ⟨b, 1, none⟩ = some (.slice none 0 0) := by simp [go_sem, k1]
  have s2 : (((w1.setCell ⟨b, 0, none⟩ (.bool false)).setCell ⟨b, 1, none⟩ (.slice none 0 0)).setCell ⟨b, 2, none⟩ (.int .i64 0)).cell? ⟨b, 2, none⟩ = some (.int .i64 0) := by simp [go_sem, k2]
  exact ⟨cellB s0 ((Below.refl _ _).alloc (Nat.le_refl _) o), cellB s1 ((Below.refl _ _).alloc (Nat.le_refl _) o), cellB s2 ((Below.refl _ _).alloc (Nat.le_refl _) o)⟩

theorem resA_err {A : Ans} {n : Nat} (hA : A = ⟨n, zP⟩) {w w' : World} (hb : Below w.heap.size w w') : ResA A w (.returned (.tuple #[.agg #[.bool false, .slice none 0 0, .int .i64 0], .int .i64 (n : Nat)])) w' := by
  subst hA
  exact ⟨none, 0, by show _ = Ending.returned (.tuple #[.agg #[.bool false, .slice none (dg 1000000000 0).length 0, .int .i64 0], .int .i64 (n : Nat)]); rw [dg_zero]; rfl, by show Own _ _ _ .u32 none 0 (dg 1000000000 0); rw [dg_zero]; exact Own.nilNone _ _ _ _, hb⟩

theorem prs_bounds {q : RS} (h : q.ds.length ≤ 1000) (hg : goodR q) : tz (dv q.ds) ≤ 30000 ∧ (dg 1000000000 (dv q.ds)).length ≤ 100000 := by
  have h3 : dv q.ds < 10 ^ q.ds.length := dv_lt hg.1
  have h4 : (dg 10 (dv q.ds)).length ≤ q.ds.length := dg_len_of_lt (by omega) h3
  have h5 := dg_len_9 (dv q.ds)
  refine ⟨?_, by omega⟩
  rcases Nat.eq_zero_or_pos (dv q.ds) with e | e
  · rw [e, tz_zero]; omega
  · have := tz_lt e h3; omega

set_option maxHeartbeats 8000000 in
set_option maxRecDepth 20000 in
theorem Parse_D (s : ByteArray) (w : World) (hs : s.size ≤ 140737488351232) (htab : Tab w) : Calls Tryz.prog 34 #[.string s] w (ResA (prsA s) w) := by
  have hR := fun W => read_any s W hs
  have HR := Lib.hid hR
  have HTAB := Lib.hid htab
  clear hR htab
  go_enter Tryz.func34, Tryz.ntmps34
  go_wp2_with fail
  refine (HR.out _).mono ?_
  rintro r w1 ⟨hb, h⟩
  have bb := ((Below.refl w.heap.size w).alloc (Nat.le_refl _) (.cells #[.bool false, .slice none 0 0, .int .i64 0] 24)).trans (hb.mono (by simp))
  have k0 : w1.cell? ⟨w.heap.size, 0, none⟩ = some (.bool false) := by rw [hb.cell (by simp)]; simp
  have k1 : w1.cell? ⟨w.heap.size, 1, none⟩ = some (.slice none 0 0) := by rw [hb.cell (by simp)]; simp
  have k2 : w1.cell? ⟨w.heap.size, 2, none⟩ = some (.int .i64 0) := by rw [hb.cell (by simp)]; simp
  have kf : ∀ j, w1.frozen? ⟨w.heap.size, j, none⟩ = false := fun j => by rw [hb.frozen (by simp)]; simp
  have hsz : w.heap.size < w1.heap.size := lt_of_cell k0
  have H0 := fun o : Obj => cellB k0 ((Below.refl w1.heap.size w1).alloc (Nat.le_refl _) o)
  have H1 := fun o : Obj => cellB k1 ((Below.refl w1.heap.size w1).alloc (Nat.le_refl _) o)
  have H2 := fun o : Obj => cellB k2 ((Below.refl w1.heap.size w1).alloc (Nat.le_refl _) o)
  rcases h with ⟨hn, rfl⟩ | ⟨q, a, c, hq, rfl, ho, hpw, hbe, hdl⟩
  · have hA : prsA s = ⟨2, zP⟩ := by unfold prsA; rw [hn]
    have HA := Lib.hid hA
    obtain ⟨z0, z1, z2⟩ := zeroRes k0 k1 k2 (.cells #[.bool false, .slice none 0 0, .int .i64 0, .bool false, .int .i64 0] 90)
    clear hn hA hb H0 H1 H2
    go_wp2
    refine bodyPost_ret (v := .tuple #[.agg #[.bool false, .slice none 0 0, .int .i64 0], .int .i64 2]) (by simp [results, Tryz.results34, go_sem, z0, z1, z2]) rfl ?_
    exact resA_err HA.out ((((bb.setCell (Nat.le_refl _) _).setCell (Nat.le_refl _) _).setCell (Nat.le_refl _) _).alloc (by simp; omega) _)
  · rcases hok : endOk q with _ | _
    · have hA : prsA s = ⟨2, zP⟩ := by unfold prsA; rw [hq]; show (if endOk q = true then _ else _) = _; rw [hok, if_neg Bool.false_ne_true]
      have hok' : decide (q.st = 3 ∨ q.st = 4 ∨ q.st = 6 ∨ q.st = 9) = false := hok
      rw [hok']
      have HA := Lib.hid hA
      obtain ⟨z0, z1, z2⟩ := zeroRes k0 k1 k2 (.cells #[.bool q.neg, .slice a q.ds.length c, .int .i64 (q.beh : Nat), .bool q.down, .int .i64 (q.pw : Nat)] 90)
      clear hA hok hok' hb ho hq H0 H1 H2
      go_wp2
      refine bodyPost_ret (v := .tuple #[.agg #[.bool false, .slice none 0 0, .int .i64 0], .int .i64 2]) (by simp [results, Tryz.results34, go_sem, z0, z1, z2]) rfl ?_
      exact resA_err HA.out ((((bb.setCell (Nat.le_refl _) _).setCell (Nat.le_refl _) _).setCell (Nat.le_refl _) _).alloc (by simp; omega) _)
    · have hok' : decide (q.st = 3 ∨ q.st = 4 ∨ q.st = 6 ∨ q.st = 9) = true := hok
      have hg := rrun_good s s.size 0 rs0 q ⟨fun c hc => (List.not_mem_nil hc).elim, Or.inl rfl⟩ hq
      have hokd := okD_good hg hok
      by_cases hlong : 1000 < s.size
      · have hA : prsA s = ⟨3, zP⟩ := by unfold prsA; rw [hq]; show (if endOk q = true then _ else _) = _; rw [hok, if_pos rfl, if_pos hlong]
        rw [hok']
        have HA := Lib.hid hA
        obtain ⟨z0, z1, z2⟩ := zeroRes k0 k1 k2 (.cells #[.bool q.neg, .slice a q.ds.length c, .int .i64 (q.beh : Nat), .bool q.down, .int .i64 (q.pw : Nat)] 90)
        clear hA hok hok' hb ho hq hg hokd H0 H1 H2
        go_wp2
        refine bodyPost_ret (v := .tuple #[.agg #[.bool false, .slice none 0 0, .int .i64 0], .int .i64 3]) (by simp [results, Tryz.results34, go_sem, z0, z1, z2]) rfl ?_
        exact resA_err HA.out ((((bb.setCell (Nat.le_refl _) _).setCell (Nat.le_refl _) _).setCell (Nat.le_refl _) _).alloc (by simp; omega) _)
      · have hA : prsA s = tellA q.neg (dv q.ds) (expo q) := by unfold prsA; rw [hq]; show (if endOk q = true then _ else _) = _; rw [hok, if_pos rfl, if_neg hlong]
        rw [hok']
        have HA := Lib.hid hA
        have hI : ¬ (1000 : Int) < (s.size : Int) := by omega
        obtain ⟨hv1, hv2⟩ := prs_bounds (q := q) (by omega) hg
        have HOK := Lib.hid hokd
        clear hA hok hok' hb hq hg H0 H1 H2
        rcases ho.shape with ⟨_, _, hn⟩ | ⟨g, hg, _⟩
        · exfalso
          have h1 : q.ds = [] := by have := congrArg List.length hn; rw [nb_length] at this; exact List.eq_nil_of_length_eq_zero this
          rw [h1] at hokd; revert hokd; decide
        subst hg
        have hown2 := ho.below (w' := w1.alloc (.cells #[.bool q.neg, .slice (some ⟨g, 0, none⟩) q.ds.length c, .int .i64 (q.beh : Nat), .bool q.down, .int .i64 (q.pw : Nat)] 90)) ((Below.refl _ _).alloc (Nat.le_refl _) _)
        have hcv := conv_back (P := Tryz.prog) (w1.alloc (.cells #[.bool q.neg, .slice (some ⟨g, 0, none⟩) q.ds.length c, .int .i64 (q.beh : Nat), .bool q.down, .int .i64 (q.pw : Nat)] 90)) 50 9 5 _ g c q.ds.length q.ds Tryz.underlying50 Tryz.underlying5 Tryz.underlying9 hown2 rfl
        have hP : ∀ W, Calls Tryz.prog 69 #[.string ⟨q.ds.toArray⟩] W fun e w' => ∃ a' cap', e = .returned (.tuple #[.slice a' (dg 1000000000 (dv q.ds)).length cap', .int .i64 0]) ∧ Own w' W.heap.size 40 .u32 a' cap' (dg 1000000000 (dv q.ds)) ∧ Below W.heap.size W w' :=
          fun W => Parse_ok (txt q.ds) W (by rw [txt_size]; omega) HOK.out
        have hT := fun e a c W h1 h2 hr ht => tell_any q.neg a c (dv q.ds) e W hv1 hv2 h1 h2 hr ht
        have HP := Lib.hid hP; have HT := Lib.hid hT
        clear hown2 ho hokd hP hT hv1 hv2
        rcases hdn : q.down with _ | _
        · rw [hdn] at hcv
          have hx : expo q = (q.pw : Int) - q.beh := by unfold expo; rw [hdn]; rfl
          go_wp2_with fail
          refine (HP.out _).mono ?_
          rintro r w3 ⟨a3, c3, rfl, ho3, hb3⟩
          have hb4 : Below w1.heap.size w1 w3 := ((Below.refl _ _).alloc (Nat.le_refl _) (.cells #[.bool q.neg, .slice (some ⟨g, 0, none⟩) q.ds.length c, .int .i64 (q.beh : Nat), .bool false, .int .i64 (q.pw : Nat)] 90)).trans (hb3.mono (by simp))
          have u0 : w3.cell? ⟨w1.heap.size, 0, none⟩ = some (.bool q.neg) := by rw [hb3.cell (by simp)]; simp
          have u2 : w3.cell? ⟨w1.heap.size, 2, none⟩ = some (.int .i64 (q.beh : Nat)) := by rw [hb3.cell (by simp)]; simp
          have r0 := cellB k0 hb4
          have r1 := cellB k1 hb4
          have r2 := cellB k2 hb4
          have rf : ∀ j, w3.frozen? ⟨w.heap.size, j, none⟩ = false := fun j => by rw [hb4.frozen (p := ⟨w.heap.size, j, none⟩) hsz]; exact kf j
          have bb4 := bb.trans (hb4.mono bb.size)
          have HX := Lib.hid hx; have HRD := Lib.hid ho3.rd
          have hsz3 : w.heap.size < w3.heap.size := lt_of_cell r0
          clear hx hcv hdn k0 k1 k2 kf hb3 hb4 bb ho3
          go_wp2_with fail
          refine (HT.out ((q.pw : Int) - q.beh) a3 c3 _ (by omega) (by omega) HRD.out (HTAB.out.below bb4)).mono ?_
          rintro e w5 ⟨a5, c5, rfl, hr5, hb6⟩
          have x0 := cellB r0 hb6
          have x1 := cellB r1 hb6
          have x2 := cellB r2 hb6
          have xf : ∀ j, w5.frozen? ⟨w.heap.size, j, none⟩ = false := fun j => by rw [hb6.frozen (p := ⟨w.heap.size, j, none⟩) hsz3]; exact rf j
          have ap := hr5.apart hsz3
          have bb5 := bb4.trans (hb6.mono bb4.size)
          have hown := hr5.mono bb4.size
          go_wp2
          have HA2 : prsA s = tellA q.neg (dv q.ds) ((q.pw : Int) - q.beh) := by rw [HA.out, HX.out]
          refine bodyPost_ret (v := .tuple #[.agg #[.bool (tellA q.neg (dv q.ds) ((q.pw : Int) - q.beh)).p.neg, .slice a5 (dg 1000000000 (tellA q.neg (dv q.ds) ((q.pw : Int) - q.beh)).p.m).length c5, .int .i64 (tellA q.neg (dv q.ds) ((q.pw : Int) - q.beh)).p.e], .int .i64 ((tellA q.neg (dv q.ds) ((q.pw : Int) - q.beh)).err : Nat)]) (by simp [results, Tryz.results34, go_sem, x0, x1, x2]) rfl ?_
          rw [HA2]
          exact ⟨a5, c5, rfl, ((hown.setFar ap _ _).setFar ap _ _).setFar ap _ _, ((bb5.setCell (Nat.le_refl _) _).setCell (Nat.le_refl _) _).setCell (Nat.le_refl _) _⟩
        · rw [hdn] at hcv
          have hx : expo q = -(q.pw : Int) - q.beh := by unfold expo; rw [hdn]; rfl
          go_wp2_with fail
          refine (HP.out _).mono ?_
          rintro r w3 ⟨a3, c3, rfl, ho3, hb3⟩
          have hb4 : Below w1.heap.size w1 w3 := ((Below.refl _ _).alloc (Nat.le_refl _) (.cells #[.bool q.neg, .slice (some ⟨g, 0, none⟩) q.ds.length c, .int .i64 (q.beh : Nat), .bool true, .int .i64 (q.pw : Nat)] 90)).trans (hb3.mono (by simp))
          have u0 : w3.cell? ⟨w1.heap.size, 0, none⟩ = some (.bool q.neg) := by rw [hb3.cell (by simp)]; simp
          have u2 : w3.cell? ⟨w1.heap.size, 2, none⟩ = some (.int .i64 (q.beh : Nat)) := by rw [hb3.cell (by simp)]; simp
          have r0 := cellB k0 hb4
          have r1 := cellB k1 hb4
          have r2 := cellB k2 hb4
          have rf : ∀ j, w3.frozen? ⟨w.heap.size, j, none⟩ = false := fun j => by rw [hb4.frozen (p := ⟨w.heap.size, j, none⟩) hsz]; exact kf j
          have bb4 := bb.trans (hb4.mono bb.size)
          have HX := Lib.hid hx; have HRD := Lib.hid ho3.rd
          have hsz3 : w.heap.size < w3.heap.size := lt_of_cell r0
          clear hx hcv hdn k0 k1 k2 kf hb3 hb4 bb ho3
          go_wp2_with fail
          refine (HT.out (-(q.pw : Int) - q.beh) a3 c3 _ (by omega) (by omega) HRD.out (HTAB.out.below bb4)).mono ?_
          rintro e w5 ⟨a5, c5, rfl, hr5, hb6⟩
          have x0 := cellB r0 hb6
          have x1 := cellB r1 hb6
          have x2 := cellB r2 hb6
          have xf : ∀ j, w5.frozen? ⟨w.heap.size, j, none⟩ = false := fun j => by rw [hb6.frozen (p := ⟨w.heap.size, j, none⟩) hsz3]; exact rf j
          have ap := hr5.apart hsz3
          have bb5 := bb4.trans (hb6.mono bb4.size)
          have hown := hr5.mono bb4.size
          go_wp2
          have HA2 : prsA s = tellA q.neg (dv q.ds) (-(q.pw : Int) - q.beh) := by rw [HA.out, HX.out]
          refine bodyPost_ret (v := .tuple #[.agg #[.bool (tellA q.neg (dv q.ds) (-(q.pw : Int) - q.beh)).p.neg, .slice a5 (dg 1000000000 (tellA q.neg (dv q.ds) (-(q.pw : Int) - q.beh)).p.m).length c5, .int .i64 (tellA q.neg (dv q.ds) (-(q.pw : Int) - q.beh)).p.e], .int .i64 ((tellA q.neg (dv q.ds) (-(q.pw : Int) - q.beh)).err : Nat)]) (by simp [results, Tryz.results34, go_sem, x0, x1, x2]) rfl ?_
          rw [HA2]
          exact ⟨a5, c5, rfl, ((hown.setFar ap _ _).setFar ap _ _).setFar ap _ _, ((bb5.setCell (Nat.le_refl _) _).setCell (Nat.le_refl _) _).setCell (Nat.le_refl _) _⟩
end Go.Proofs.YtimfpgpomafflaaGreatDoor
