/- slices.Backward over limbs: its iterator's contract. -/
import Derived.RangeFuncNested
import Derived.RangeFuncBound
import Derived.RangeFuncCalls
import Derived.RangeFuncBox
import Derived.RangeFuncLeaves
import Derived.Shelf.Abstract
import Derived.WalkKit
import Derived.OwnWalkIn
import Derived.TacticsInMore
import Derived.LoopNIn
import Derived.LoopIn
import Derived.Test.YtimfpgpomafflaaGreatDoorQuotX
namespace Go.Proofs.YtimfpgpomafflaaGreatDoor
open Go.RowKit Go.Shelf LM

attribute [local go_sem] Oper.semAt_some

abbrev U32 := { v : Nat // v < 4294967296 }
def upto {α : Type} (f : Nat → α) (k : Nat) : List α := (List.range k).map f
theorem upto_succ {α : Type} (f : Nat → α) (k : Nat) : upto f (k + 1) = upto f k ++ [f k] := by simp [upto, List.range_succ]
theorem upto_length {α : Type} (f : Nat → α) (k : Nat) : (upto f k).length = k := by simp [upto]
def bkf (l : List Nat) (h : ∀ j : Nat, l[j]?.getD 0 < 4294967296) (j : Nat) : Nat × U32 := (l.length - 1 - j, ⟨l[l.length - 1 - j]?.getD 0, h _⟩)

set_option maxRecDepth 100000 in
set_option maxHeartbeats 4000000 in
theorem back1_in (F : Fence) (n : Nat) (h8 : F.fn 90) (hro : F.round = none) (hn : 1 ≤ n) (l Bs cap : Nat) (a : Option Addr) (zs : List Nat) (hz : ∀ j : Nat, zs[j]?.getD 0 < 4294967296) (hreach : zs.length ≤ 1000000) (Kp : World → World → Prop)
    (hK1 : ∀ A B : World, Kp A B → A.cell? ⟨Bs, 0, none⟩ = some (.slice a zs.length cap) → B.cell? ⟨Bs, 0, none⟩ = some (.slice a zs.length cap)) (hK2 : ∀ A B : World, Kp A B → Rd A .u32 a zs → Rd B .u32 a zs) (J Jx : List (Nat × U32) → World → Prop)
    (hY : ∀ pre x W, J pre W → pre.length < zs.length → YieldAt F (n - 1) Tryz.prog l #[.int .i64 (x.1 : Int), .int .u32 ((x.2.1 : Nat) : Int)] W fun e W' =>
      (e = .returned (.bool true) ∧ J (pre ++ [x]) W' ∧ Kp W W') ∨ (e = .returned (.bool false) ∧ Jx (pre ++ [x]) W'))
    (W : World) (hBs : W.cell? ⟨Bs, 0, none⟩ = some (.slice a zs.length cap)) (hr : Rd W .u32 a zs) (h0 : J [] W) :
    CallsIn F n Tryz.prog 90 #[.func (.yield l) #[] #[], .pointer (some ⟨Bs, 0, none⟩)] W fun e W' => (∃ v, e = .returned v) ∧
      ((∃ ys, ys = upto (bkf zs hz) zs.length ∧ J ys W') ∨ (∃ pre, (∃ k, k ≤ zs.length ∧ pre = upto (bkf zs hz) k) ∧ Jx pre W')) := by
  refine callsIn_of_wp Tryz.func90 rfl h8 ?_ hro
  simp only [Tryz.ntmps90, List.size_toArray, List.length_cons, List.length_nil, Nat.reduceAdd, Nat.reduceSub, Array.replicate_succ, Array.replicate_zero, List.push_toArray, List.append_toArray, List.nil_append, List.cons_append]
  obtain ⟨len, hlen⟩ : ∃ len, len = zs.length := ⟨_, rfl⟩
  rw [← hlen] at hBs hreach hK1
  have HK1 := Lib.hid hK1; have HK2 := Lib.hid hK2; have HR := Lib.hid hr
  clear hK1 hK2 hr
  gi_wp2
  gi_loopw [3] (fun i wr => ∃ k : Nat, k ≤ len ∧ i = .int .i64 ((len : Int) - 1 - k) ∧ J (upto (bkf zs hz) k) wr ∧ wr.cell? ⟨Bs, 0, none⟩ = some (.slice a len cap) ∧ Hid (Rd wr .u32 a zs))
    (fun i _ => (intOf i + 1).toNat)
  case atStart => exact ⟨0, Nat.zero_le _, by simp [hlen], h0, hBs, HR⟩
  case round =>
    obtain ⟨k, hk, rfl, hJs, hBx, HR⟩ := hrel
    by_cases hlt : k < len
    · obtain ⟨j, hj⟩ : ∃ j : Nat, j = len - 1 - k := ⟨_, rfl⟩
      have hji : (len : Int) - 1 - (k : Int) = (j : Int) := by omega
      have hjl : j < len := by omega
      obtain ⟨fn, tmps, assign, body, hy, hR⟩ := hY _ (bkf zs hz k) wr hJs (by rw [upto_length]; omega)
      have e1 : (bkf zs hz k).1 = j := by unfold bkf; simp only; omega
      have e2 : (bkf zs hz k).2.1 = zs[j]?.getD 0 := by unfold bkf; simp only; rw [← hlen, ← hj]
      rw [e1, e2] at hy
      have hBx0 := Lib.hid hBx; have HR0 := HR
      obtain ⟨b, off, hab, hcx'⟩ := HR.out j (by omega)
      have HAB := Lib.hid hab
      rw [hab] at hBx
      rw [hji]
      have HJ := Lib.hid hji; have HL := Lib.hid hlen
      clear hY e1 e2 hj hji hab
      have hlen0 := hlen
      clear hlen hlen0 HR
      gi_wp2
      refine hR.mono ?_
      rintro e W3 (⟨rfl, hJ3, hk3⟩ | ⟨rfl, hJx3⟩)
      · gi_wp2
        go_roundw
        case rel => exact ⟨k + 1, by omega, by have := HJ.out; first | (congr 1; omega) | (congr 1; simp; omega), by rw [upto_succ]; exact hJ3, HK1.out _ _ hk3 hBx0.out, Lib.hid (HK2.out _ _ hk3 HR0.out)⟩
        case measure => first | (simp [intOf]; done) | (simp [intOf]; omega)
      · gi_wp2
        refine bodyPost_ret (results_none rfl _ _ _) rfl ?_
        exact ⟨⟨_, rfl⟩, .inr ⟨_, ⟨k + 1, by have := HL.out; omega, (upto_succ _ _).symm⟩, hJx3⟩⟩
    · obtain rfl : k = len := by omega
      rw [show (k : Int) - 1 - (k : Int) = -1 by omega]
      gi_wp2
      go_end0
      exact ⟨⟨_, rfl⟩, .inl ⟨_, by rw [hlen], hJs⟩⟩
/-- what a round over limbs keeps: all cells below M but those of block N -/
def KpN (N M : Nat) (A B : World) : Prop := ∀ b o, b ≠ N → b < M → B.cell? ⟨b, o, none⟩ = A.cell? ⟨b, o, none⟩
theorem KpN.trans {N M : Nat} {A B C : World} (h1 : KpN N M A B) (h2 : KpN N M B C) : KpN N M A C := fun b o hn hm => (h2 b o hn hm).trans (h1 b o hn hm)
theorem KpN.put {N : Nat} {w0 : World} (W : World) (l : Nat) (o o' : Obj) (hl : w0.heap.size ≤ l) (h1 : W.heap[l]? = some o) (h2 : o.isCells = false) (h3 : o.isWalk = false) : KpN N w0.heap.size W (W.putObj l o') := fun b j _ hm => (belowK_b (n₀ := w0.heap.size) (w := w0) (Nat.le_refl _) W l o o' hl h1 h2 h3).cell (p := ⟨b, j, none⟩) hm
theorem KpN.set {N M : Nat} (W : World) (j : Nat) (v : Value) : KpN N M W (W.setCell ⟨N, j, none⟩ v) := fun b o hn _ => by
  rw [World.cell?_setCell_other]
  intro e
  exact hn (by simpa using (congrArg Addr.block e).symm)
theorem back_stops (F : Fence) (n : Nat) (h8 : F.fn 90) (hro : F.round = none) (hn : 1 ≤ n) (Bs cap N : Nat) (a : Option Addr) (zs : List Nat) (hz : ∀ j : Nat, zs[j]?.getD 0 < 4294967296) (hreach : zs.length ≤ 1000000) (w : World) (hBs : w.cell? ⟨Bs, 0, none⟩ = some (.slice a zs.length cap)) (hNB : Bs ≠ N) (hr : Rd w .u32 a zs) (hN : ∀ j, w.cell? ⟨N, j, none⟩ = none ∨ ∃ x, w.cell? ⟨N, j, none⟩ = some (.int .i64 x)) :
    SeqStopsK F n Tryz.prog 90 #[.pointer (some ⟨Bs, 0, none⟩)] (fun x : Nat × U32 => #[Value.int .i64 (x.1 : Int), Value.int .u32 ((x.2.1 : Nat) : Int)]) (KpN N w.heap.size) (fun ys => ys = upto (bkf zs hz) zs.length)
      (fun pre => ∃ k, k ≤ zs.length ∧ pre = upto (bkf zs hz) k) zs.length w := fun l J Jx W hW _ _ hY h0 => by
  have hrow : ∀ j, j < zs.length → ∃ b off, a = some ⟨b, off, none⟩ ∧ b ≠ N ∧ b < w.heap.size := by
    intro j hj
    obtain ⟨b, off, e, hc⟩ := hr j hj
    refine ⟨b, off, e, ?_, lt_of_cell hc⟩
    rintro rfl
    rcases hN (off + j) with h | ⟨x, h⟩
    · rw [h] at hc; cases hc
    · rw [h] at hc; cases hc
  refine back1_in F n h8 hro hn l Bs cap a zs hz hreach (KpN N w.heap.size) (fun A B hk hc => (hk Bs 0 hNB (lt_of_cell hBs)).trans hc) ?_ J Jx hY W ((hW.cell (p := ⟨Bs, 0, none⟩) (lt_of_cell hBs)).trans hBs) (hr.below' hW (Nat.le_refl _)) h0
  intro A B hk hA j hj
  obtain ⟨b, off, e, hc⟩ := hA j hj
  obtain ⟨b', off', e', hne, hlt⟩ := hrow j hj
  rw [e] at e'
  cases e'
  exact ⟨b, off, e, (hk b _ hne hlt).trans hc⟩
theorem Backward_any (a : Option Addr) (len cap : Nat) (w : World) :
    Calls Tryz.prog 57 #[.slice a len cap] w fun e w' => e = .returned (.func (.func 90) #[] #[.pointer (some ⟨w.heap.size, 0, none⟩)]) ∧ w' = w.alloc (.cells #[.slice a len cap] 22) := by
  have hmf : ∀ (fn : Fn) (first cap : Array Value) (w : World), (Instr.makeFunc fn first cap).run Tryz.prog w = .ok (.func fn first cap) w := fun _ _ _ _ => rfl
  go_enter Tryz.func57, Tryz.ntmps57
  go_wp2
  go_ret
  exact ⟨rfl, rfl⟩
end Go.Proofs.YtimfpgpomafflaaGreatDoor
