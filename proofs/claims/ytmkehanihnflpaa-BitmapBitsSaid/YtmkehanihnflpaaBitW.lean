/- Six laws of layer 6 walked. -/
import Derived.Test.YtmkehanihnflpaaBitL
namespace Go.Proofs.Ytmkehanihnflpaa
open Go.RowKit BM

theorem Bits_at2 {cv : Int} (a : Option Addr) (cap : Nat) (l : List Nat) (c : Nat) (w : World) (hcv : cv = (c : Int)) (hl : l.length ≤ 9223372036854775807) (hrd : Rd w .u8 a l) :
    Calls Try.prog 12 #[.slice a l.length cap, .int .u8 cv] w fun e w' => e = .returned (.int .u64 (val (bm l c))) ∧ w = w' := by
  subst hcv; exact Bits_any a cap l c w hl hrd
set_option maxHeartbeats 400000 in
theorem BitmapBits_any (a : Option Addr) (cap : Nat) (l : List Nat) (c : Nat) (w : World) (hl : l.length ≤ 9223372036854775807) (_hc : l.length ≤ cap) (hrd : Rd w .u8 a l) :
    Calls Try.prog 3 #[.slice a l.length cap, .int .u8 c] w fun e w' => e = .returned (.bool true) ∧ Below w.heap.size w w' := by
  have HR := Lib.hid hrd
  clear hrd
  go_enter Try.func3, Try.ntmps3
  go_wp2_with ((with_reducible refine (shown_any _).mono ?_); rintro r w1 ⟨rfl, hb⟩; have HB := Lib.hid hb; clear hb)
  have HR1 := Lib.hid (HR.out.below HB.out)
  go_wp2_with (first | ((with_reducible refine (Bits_any a cap l c _ hl HR1.out).mono ?_); rintro e w' ⟨rfl, rfl⟩) | ((with_reducible refine (BitsR_any a cap l c _ hl HR1.out).mono ?_); rintro e w' ⟨rfl, rfl⟩))
  go_ret
  exact ⟨by simp, HB.out⟩
set_option maxHeartbeats 400000 in
theorem BitmapPrefixes_any (x : BitVec 64) (w : World) :
    Calls Try.prog 4 #[.int .u64 (val x)] w fun e w' => e = .returned (.bool true) ∧ Below w.heap.size w w' := by
  have HP : Hid (mk (par x) 64 = pre x) := Lib.hid (pre_mk x).symm
  go_enter Try.func4, Try.ntmps4
  go_wp2_with ((with_reducible refine (shown_any _).mono ?_); rintro r w1 ⟨rfl, hb⟩; have HB := Lib.hid hb; clear hb)
  go_wp2_with (first | ((with_reducible refine (Prefix_any _ _).mono ?_); rintro e w' ⟨rfl, rfl⟩) | ((with_reducible refine (PrefixR_any _ _).mono ?_); rintro e w' ⟨rfl, rfl⟩; rw [HP.out]))
  go_ret
  exact ⟨by simp, HB.out⟩
set_option maxHeartbeats 400000 in
theorem BitmapEscapes_any (x : BitVec 64) (b : Bool) (w : World) :
    Calls Try.prog 5 #[.int .u64 (val x), .bool b] w fun e w' => e = .returned (.bool true) ∧ Below w.heap.size w w' := by
  have HP : Hid (mk (escAt x b) 64 = escM x b) := Lib.hid (escM_mk x b).symm
  have HQ : Hid (escAt x b 64 = escC x b) := Lib.hid (escC_at x b).symm
  go_enter Try.func5, Try.ntmps5
  go_wp2_with ((with_reducible refine (shown_any _).mono ?_); rintro r w1 ⟨rfl, hb⟩; have HB := Lib.hid hb; clear hb)
  go_wp2_with (first | ((with_reducible refine (Escaped_any _ _ _).mono ?_); rintro e w' ⟨rfl, rfl⟩) | ((with_reducible refine (EscapedR_any _ _ _).mono ?_); rintro e w' ⟨rfl, rfl⟩; rw [HP.out, HQ.out]))
  go_ret
  exact ⟨by simp, HB.out⟩
theorem ins63 (x : BitVec 64) (b : Bool) : bitAt (ins x b) 63 = inAt x b 64 := ins_bit x b 63 (by omega)
set_option maxHeartbeats 400000 in
theorem BitmapInsides_any (x : BitVec 64) (b : Bool) (w : World) :
    Calls Try.prog 6 #[.int .u64 (val x), .bool b] w fun e w' => e = .returned (.bool true) ∧ Below w.heap.size w w' := by
  have HP : Hid (mk (insF x b) 64 = ins x b) := Lib.hid (ins_mk x b).symm
  have HQ : Hid (inAt x b 64 = bitAt (ins x b) 63) := Lib.hid (ins63 x b).symm
  go_enter Try.func6, Try.ntmps6
  go_wp2_with ((with_reducible refine (shown_any _).mono ?_); rintro r w1 ⟨rfl, hb⟩; have HB := Lib.hid hb; clear hb)
  go_wp2_with (first | ((with_reducible refine (Inside_any _ _ _).mono ?_); rintro e w' ⟨rfl, rfl⟩) | ((with_reducible refine (InsideR_any _ _ _).mono ?_); rintro e w' ⟨rfl, rfl⟩; rw [HP.out, HQ.out]))
  go_ret
  exact ⟨by simp, HB.out⟩
theorem Prefix_at {v : Int} (x : BitVec 64) (hv : v = val x) (w : World) :
    Calls Try.prog 14 #[.int .u64 v] w fun e w' => e = .returned (.int .u64 (val (pre x))) ∧ w = w' := by
  subst hv; exact Prefix_any x w
theorem b63 (x : BitVec 64) : (val x / 9223372036854775808 == 1) = bitAt x 63 := by
  have h1 := val_lt x
  have h0 := val_nn x
  have h := sr_odd x 63
  rw [← u_shr, show (2 : Int) ^ 63 = 9223372036854775808 from rfl] at h
  rw [← h, Bool.eq_iff_iff, beq_iff_eq, beq_iff_eq]
  omega
set_option maxRecDepth 20000 in
set_option maxHeartbeats 1000000 in
theorem BitmapSums_any (x y : BitVec 64) (w : World) :
    Calls Try.prog 8 #[.int .u64 (val x), .int .u64 (val y)] w fun e w' => e = .returned (.bool true) ∧ Below w.heap.size w w' := by
  have HX := Lib.hid (u_xor x y)
  have t1 : (bits .xor .u64 (val (pre x)) (IntKind.u64.wrap (val (pre x) * 2)) == val x) = true := by rw [u_shl1, u_xor, pre_undo]; simp
  have t2 : (val (pre (x ^^^ y)) == bits .xor .u64 (val (pre x)) (val (pre y))) = true := by rw [u_xor, pre_xor]; simp
  have H4 : Hid (val (ins x true) = bits .xor .u64 IntKind.u64.max (val (pre x))) := Lib.hid (by rw [k_not, show ins x true = ~~~pre x from rfl])
  have t4 : (bits .xor .u64 IntKind.u64.max (val (pre x)) == bits .xor .u64 (if IntKind.u64.signed = true then -1 else IntKind.u64.max) (val (pre x))) = true := by rw [if_neg (by decide)]; simp
  have e1 : ins x false = pre x := rfl
  have e2 : bitAt (ins x true) 63 = !bitAt (pre x) 63 := by
    unfold bitAt; rw [show ins x true = ~~~pre x from rfl, BitVec.getLsbD_not]; rfl
  have t5 := b63 (pre x)
  have HI : ∀ w, Calls Try.prog 18 #[.int .u64 (val x), .bool false] w fun e w' => e = .returned (.tuple #[.int .u64 (val (pre x)), .bool (bitAt (pre x) 63)]) ∧ w = w' := fun w => Inside_any x false w
  have HJ : ∀ w, Calls Try.prog 18 #[.int .u64 (val x), .bool true] w fun e w' => e = .returned (.tuple #[.int .u64 (bits .xor .u64 IntKind.u64.max (val (pre x))), .bool (!bitAt (pre x) 63)]) ∧ w = w' := fun w => by
    have h := Inside_any x true w
    rw [H4.out, e2] at h; exact h
  have HI' := Lib.hid HI; have HJ' := Lib.hid HJ
  clear HI HJ e1 e2
  cases hc : bitAt (pre x) 63
  all_goals
    rw [hc] at t5 HI' HJ'
    clear hc
    go_enter Try.func8, Try.ntmps8
    go_wp2_with ((with_reducible refine (shown_any _).mono ?_); rintro r w1 ⟨rfl, hb⟩; have HB := Lib.hid hb; clear hb)
    go_wp2_with (first | ((with_reducible refine (Prefix_any _ _).mono ?_); rintro e w' ⟨rfl, rfl⟩) | ((with_reducible refine (HI'.out _).mono ?_); rintro e w' ⟨rfl, rfl⟩) | ((with_reducible refine (HJ'.out _).mono ?_); rintro e w' ⟨rfl, rfl⟩) | ((with_reducible refine (Prefix_at _ HX.out _).mono ?_); rintro e w' ⟨rfl, rfl⟩))
    go_ret
    exact ⟨by simp, HB.out⟩
set_option maxRecDepth 20000 in
set_option maxHeartbeats 1000000 in
theorem BitmapRuns_any (x : BitVec 64) (b : Bool) (w : World) :
    Calls Try.prog 9 #[.int .u64 (val x), .bool b] w fun e w' => e = .returned (.bool true) ∧ Below w.heap.size w w' := by
  have t0 : (val (escM x b) == bits .or .u64 (IntKind.u64.wrap (bits .andNot .u64 (val x) (val (escM x b)) * 2)) (val (bit0 b))) = true := by
    rw [u_andNot, u_shl1, u_or, ← runs1]; simp
  have t2 : (bits .andNot .u64 (val x) (val (escM x b)) / 9223372036854775808 == 1) = escC x b := by
    rw [u_andNot, b63, runs2]; rfl
  have t3 : (bits .and .u64 (val (escM x b)) (IntKind.u64.wrap (val (escM x b) * 2)) == 0) = true := by
    rw [u_shl1, u_and, runs3]; rfl
  have HE := Lib.hid (fun w => Escaped_any x b w)
  generalize escM x b = E at *
  generalize escC x b = C at *
  cases b
  all_goals
    have t1 := t0
    first | rw [show val (bit0 false) = 0 from rfl] at t1 | rw [show val (bit0 true) = 1 from rfl] at t1
    clear t0
    cases C
    all_goals
      go_enter Try.func9, Try.ntmps9
      go_wp2_with ((with_reducible refine (shown_any _).mono ?_); rintro r w1 ⟨rfl, hb⟩; have HB := Lib.hid hb; clear hb)
      go_wp2_with ((with_reducible refine (HE.out _).mono ?_); rintro e w' ⟨rfl, rfl⟩)
      go_ret
      exact ⟨by simp, HB.out⟩
end Go.Proofs.Ytmkehanihnflpaa
