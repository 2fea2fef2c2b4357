/- Scan walked. -/
import Derived.Test.YtibgejndlllhfaaDoorBitB
import Derived.Test.YtibgejndlllhfaaDoorLimbLaw
import Derived.Deep.QuietTactic
import Derived.BigQuiet
import Derived.Laws.ResultCell
namespace Go.Proofs.YtibgejndlllhfaaDoor
open Go.RowKit BM

theorem Bits_at {n : Nat} (a : Option Addr) (cap : Nat) (l : List Nat) (c : Nat) (cv : Int) (w : World) (hn : n = l.length) (hcv : cv = (c : Int)) (hl : l.length ≤ 64) (hrd : Rd w .u8 a l) :
    Calls Tryd.prog 36 #[.slice a n cap, .int .u8 cv] w fun e w' => e = .returned (.int .u64 (val (bm l c))) ∧ w = w' := by
  subst hn hcv; exact Bits_any a cap l c w (by omega) hrd
theorem anyOf_at {n : Nat} (a : Option Addr) (cap : Nat) (l : List Nat) (s : ByteArray) (w : World) (hn : n = l.length) (hl : l.length ≤ 64) (hs : s.size ≤ 100) (hrd : Rd w .u8 a l) :
    Calls Tryd.prog 40 #[.slice a n cap, .string s] w fun e w' => e = .returned (.int .u64 (val (orTo l s s.size))) ∧ w = w' := by
  subst hn; exact anyOf_any a cap l s w (by omega) hs hrd

abbrev opens : ByteArray := ⟨#[91, 123]⟩
abbrev shuts : ByteArray := ⟨#[93, 125]⟩
abbrev blanks : ByteArray := ⟨#[32, 9, 10, 13]⟩
theorem anyOf_op {n : Nat} (a : Option Addr) (cap : Nat) (l : List Nat) (w : World) (hn : n = l.length) (hl : l.length ≤ 64) (hrd : Rd w .u8 a l) :
    Calls Tryd.prog 40 #[.slice a n cap, .string ⟨#[91, 123]⟩] w fun e w' => e = .returned (.int .u64 (val (orTo l opens 2))) ∧ w = w' := anyOf_at a cap l opens w hn hl (by decide) hrd
theorem anyOf_sh {n : Nat} (a : Option Addr) (cap : Nat) (l : List Nat) (w : World) (hn : n = l.length) (hl : l.length ≤ 64) (hrd : Rd w .u8 a l) :
    Calls Tryd.prog 40 #[.slice a n cap, .string ⟨#[93, 125]⟩] w fun e w' => e = .returned (.int .u64 (val (orTo l shuts 2))) ∧ w = w' := anyOf_at a cap l shuts w hn hl (by decide) hrd
theorem anyOf_bl {n : Nat} (a : Option Addr) (cap : Nat) (l : List Nat) (w : World) (hn : n = l.length) (hl : l.length ≤ 64) (hrd : Rd w .u8 a l) :
    Calls Tryd.prog 40 #[.slice a n cap, .string ⟨#[32, 9, 10, 13]⟩] w fun e w' => e = .returned (.int .u64 (val (orTo l blanks 4))) ∧ w = w' := anyOf_at a cap l blanks w hn hl (by decide) hrd
theorem Inside_at {v : Int} (x : BitVec 64) (b : Bool) (hv : v = val x) (w : World) :
    Calls Tryd.prog 37 #[.int .u64 v, .bool b] w fun e w' => e = .returned (.tuple #[.int .u64 (val (ins x b)), .bool (bitAt (ins x b) 63)]) ∧ w = w' := by
  subst hv; exact Inside_any x b w
def sQ (l : List Nat) (o : Bool) : BitVec 64 := andNot (bm l 34) (escM (bm l 92) o)
def sI (l : List Nat) (o i : Bool) : BitVec 64 := ins (sQ l o) i
def mOpen (l : List Nat) (o i : Bool) : BitVec 64 := andNot (orTo l opens 2) (sI l o i)
def mClose (l : List Nat) (o i : Bool) : BitVec 64 := andNot (orTo l shuts 2) (sI l o i)
def mColon (l : List Nat) (o i : Bool) : BitVec 64 := andNot (bm l 58) (sI l o i)
def mComma (l : List Nat) (o i : Bool) : BitVec 64 := andNot (bm l 44) (sI l o i)
def mSpace (l : List Nat) (o i : Bool) : BitVec 64 := andNot (orTo l blanks 4) (sI l o i)
def mIn (l : List Nat) (o i : Bool) : BitVec 64 := sI l o i &&& ones l.length
def cOdd (l : List Nat) (o : Bool) : Bool := if l.length < 64 then bitAt (escM (bm l 92) o) l.length else escC (bm l 92) o
def cIn (l : List Nat) (o i : Bool) : Bool := if l.length < 64 then bitAt (sI l o i) l.length else bitAt (sI l o i) 63

/-- what Scan answers -/
def ResS (l : List Nat) (o i : Bool) (w : World) (e : Ending) (w' : World) : Prop :=
  e = .returned (.tuple #[masksV (sQ l o) (mIn l o i) (mOpen l o i) (mClose l o i) (mColon l o i) (mComma l o i) (mSpace l o i), .agg #[.bool (cOdd l o), .bool (cIn l o i)]]) ∧ Below w.heap.size w w'

theorem resS_of {l : List Nat} {o i c d : Bool} {w W : World} {B B' : Nat} {u1 u2 u3 u4 u5 u6 u7 u8 u9 : Value} (hc : cOdd l o = c) (hd : cIn l o i = d) (h : Below w.heap.size w W) (hB : w.heap.size ≤ B := by omega) (hB' : w.heap.size ≤ B' := by omega) :
    ResS l o i w (.returned (.tuple #[.agg #[.int .u64 (bits .andNot .u64 (val (bm l 34)) (val (escM (bm l 92) o))), .int .u64 (bits .and .u64 (val (ins (sQ l o) i)) (val (ones l.length))), .int .u64 (bits .andNot .u64 (val (orTo l opens 2)) (val (ins (sQ l o) i))), .int .u64 (bits .andNot .u64 (val (orTo l shuts 2)) (val (ins (sQ l o) i))), .int .u64 (bits .andNot .u64 (val (bm l 58)) (val (ins (sQ l o) i))), .int .u64 (bits .andNot .u64 (val (bm l 44)) (val (ins (sQ l o) i))), .int .u64 (bits .andNot .u64 (val (orTo l blanks 4)) (val (ins (sQ l o) i)))], .agg #[.bool c, .bool d]]))
      (((((((((W.setCell ⟨B, 0, none⟩ u1).setCell ⟨B, 1, none⟩ u2).setCell ⟨B, 2, none⟩ u3).setCell ⟨B, 3, none⟩ u4).setCell ⟨B, 4, none⟩ u5).setCell ⟨B, 5, none⟩ u6).setCell ⟨B, 6, none⟩ u7).setCell ⟨B', 0, none⟩ u8).setCell ⟨B', 1, none⟩ u9) := by
  subst hc hd
  refine ⟨?_, (((((((((h.setCell hB _).setCell hB _).setCell hB _).setCell hB _).setCell hB _).setCell hB _).setCell hB _).setCell hB' _).setCell hB' _)⟩
  simp only [u_andNot, u_and]; rfl
theorem firstBits_64 (w : World) :
    Calls Tryd.prog 39 #[.int .i64 64] w fun e w' => e = .returned (.int .u64 (val (ones 64))) ∧ w = w' := firstBits_any 64 (by omega) w
set_option maxRecDepth 100000 in
set_option maxHeartbeats 1000000 in
theorem Scan_less (a : Option Addr) (cap : Nat) (l : List Nat) (o i : Bool) (w : World) (hcap : l.length ≤ cap) (hrd : Rd w .u8 a l) (hm : l.length < 64) :
    Calls Tryd.prog 34 #[.slice a l.length cap, .agg #[.bool o, .bool i]] w (ResS l o i w) := by
  have HR := Lib.hid hrd
  have hm2 : l.length ≤ 64 := by omega
  clear hrd
  have e1 := Lib.hid (u_andNot (bm l 34) (escM (bm l 92) o))
  go_enter Tryd.func34, Tryd.ntmps34
  go_wp2
  have HR1 : ∀ (A B C : Obj) (n : Nat), Rd ((((w.alloc A).alloc B).alloc C).drewN n) .u8 a l := fun A B C n => (((HR.out.alloc A).alloc B).alloc C).dN n
  go_quiet ((first | (go_at_call 36; first | exact still (Bits_at a cap l 92 92 _ rfl rfl (by omega) (HR1 _ _ _ _)) | exact still2 (Bits_at a cap l 92 92 _ rfl rfl (by omega) (HR1 _ _ _ _))) | (go_at_call 35; first | exact still (Escaped_any _ _ _) | exact still2 (Escaped_any _ _ _))))
  go_wp2_with (first
    | ((with_reducible refine (Bits_at a cap l 34 34 _ rfl rfl hm2 (HR1 _ _ _ _)).mono ?_); rintro e w' ⟨rfl, rfl⟩)
    | ((with_reducible refine (Inside_at (sQ l o) _ e1.out _).mono ?_); rintro e w' ⟨rfl, rfl⟩)
    | ((with_reducible refine (isSet_any _ _ hm _).mono ?_); rintro e w' ⟨rfl, rfl⟩)
    | ((with_reducible refine (firstBits_any _ hm2 _).mono ?_); rintro e w' ⟨rfl, rfl⟩)
    | ((with_reducible refine (anyOf_op a cap l _ rfl hm2 (HR1 _ _ _ _)).mono ?_); rintro e w' ⟨rfl, rfl⟩)
    | ((with_reducible refine (anyOf_sh a cap l _ rfl hm2 (HR1 _ _ _ _)).mono ?_); rintro e w' ⟨rfl, rfl⟩)
    | ((with_reducible refine (anyOf_bl a cap l _ rfl hm2 (HR1 _ _ _ _)).mono ?_); rintro e w' ⟨rfl, rfl⟩)
    | ((with_reducible refine (Bits_at a cap l 58 58 _ rfl rfl hm2 (HR1 _ _ _ _)).mono ?_); rintro e w' ⟨rfl, rfl⟩)
    | ((with_reducible refine (Bits_at a cap l 44 44 _ rfl rfl hm2 (HR1 _ _ _ _)).mono ?_); rintro e w' ⟨rfl, rfl⟩))
  refine bodyPost_ret (v := .tuple #[.agg #[.int .u64 (bits .andNot .u64 (val (bm l 34)) (val (escM (bm l 92) o))), .int .u64 (bits .and .u64 (val (ins (sQ l o) i)) (val (ones l.length))), .int .u64 (bits .andNot .u64 (val (orTo l opens 2)) (val (ins (sQ l o) i))), .int .u64 (bits .andNot .u64 (val (orTo l shuts 2)) (val (ins (sQ l o) i))), .int .u64 (bits .andNot .u64 (val (bm l 58)) (val (ins (sQ l o) i))), .int .u64 (bits .andNot .u64 (val (bm l 44)) (val (ins (sQ l o) i))), .int .u64 (bits .andNot .u64 (val (orTo l blanks 4)) (val (ins (sQ l o) i)))], .agg #[.bool (bitAt (escM (bm l 92) o) l.length), .bool (bitAt (ins (sQ l o) i) l.length)]]) (by simp [results, Tryd.results34, go_sem]) rfl ?_
  exact resS_of (if_pos hm) (if_pos hm) (bdN ((((Below.refl _ _).alloc (Nat.le_refl _) _).alloc (by simp) _).alloc (by simp; omega) _) _)
set_option maxRecDepth 100000 in
set_option maxHeartbeats 1000000 in
theorem Scan_eq (a : Option Addr) (cap : Nat) (l : List Nat) (o i : Bool) (w : World) (hcap : l.length ≤ cap) (hrd : Rd w .u8 a l) (hm : ¬ l.length < 64) (hm2 : l.length ≤ 64) :
    Calls Tryd.prog 34 #[.slice a l.length cap, .agg #[.bool o, .bool i]] w (ResS l o i w) := by
  have HR := Lib.hid hrd
  clear hrd
  have e1 := Lib.hid (u_andNot (bm l 34) (escM (bm l 92) o))
  go_enter Tryd.func34, Tryd.ntmps34
  go_wp2
  have HR1 : ∀ (A B C : Obj) (n : Nat), Rd ((((w.alloc A).alloc B).alloc C).drewN n) .u8 a l := fun A B C n => (((HR.out.alloc A).alloc B).alloc C).dN n
  go_quiet ((first | (go_at_call 36; first | exact still (Bits_at a cap l 92 92 _ rfl rfl (by omega) (HR1 _ _ _ _)) | exact still2 (Bits_at a cap l 92 92 _ rfl rfl (by omega) (HR1 _ _ _ _))) | (go_at_call 35; first | exact still (Escaped_any _ _ _) | exact still2 (Escaped_any _ _ _))))
  go_wp2_with (first
    | ((with_reducible refine (Bits_at a cap l 34 34 _ rfl rfl hm2 (HR1 _ _ _ _)).mono ?_); rintro e w' ⟨rfl, rfl⟩)
    | ((with_reducible refine (Inside_at (sQ l o) _ e1.out _).mono ?_); rintro e w' ⟨rfl, rfl⟩)
    | ((with_reducible refine (firstBits_any _ hm2 _).mono ?_); rintro e w' ⟨rfl, rfl⟩)
    | ((with_reducible refine (anyOf_op a cap l _ rfl hm2 (HR1 _ _ _ _)).mono ?_); rintro e w' ⟨rfl, rfl⟩)
    | ((with_reducible refine (anyOf_sh a cap l _ rfl hm2 (HR1 _ _ _ _)).mono ?_); rintro e w' ⟨rfl, rfl⟩)
    | ((with_reducible refine (anyOf_bl a cap l _ rfl hm2 (HR1 _ _ _ _)).mono ?_); rintro e w' ⟨rfl, rfl⟩)
    | ((with_reducible refine (Bits_at a cap l 58 58 _ rfl rfl hm2 (HR1 _ _ _ _)).mono ?_); rintro e w' ⟨rfl, rfl⟩)
    | ((with_reducible refine (Bits_at a cap l 44 44 _ rfl rfl hm2 (HR1 _ _ _ _)).mono ?_); rintro e w' ⟨rfl, rfl⟩))
  refine bodyPost_ret (v := .tuple #[.agg #[.int .u64 (bits .andNot .u64 (val (bm l 34)) (val (escM (bm l 92) o))), .int .u64 (bits .and .u64 (val (ins (sQ l o) i)) (val (ones l.length))), .int .u64 (bits .andNot .u64 (val (orTo l opens 2)) (val (ins (sQ l o) i))), .int .u64 (bits .andNot .u64 (val (orTo l shuts 2)) (val (ins (sQ l o) i))), .int .u64 (bits .andNot .u64 (val (bm l 58)) (val (ins (sQ l o) i))), .int .u64 (bits .andNot .u64 (val (bm l 44)) (val (ins (sQ l o) i))), .int .u64 (bits .andNot .u64 (val (orTo l blanks 4)) (val (ins (sQ l o) i)))], .agg #[.bool (escC (bm l 92) o), .bool (bitAt (ins (sQ l o) i) 63)]]) (by simp [results, Tryd.results34, go_sem]) rfl ?_
  exact resS_of (if_neg hm) (if_neg hm) (bdN ((((Below.refl _ _).alloc (Nat.le_refl _) _).alloc (by simp) _).alloc (by simp; omega) _) _)
set_option maxRecDepth 100000 in
set_option maxHeartbeats 1000000 in
theorem Scan_more (a : Option Addr) (cap : Nat) (l : List Nat) (len : Nat) (o i : Bool) (w : World) (hcap : len ≤ cap) (hlen : len ≤ 9223372036854775807) (hrd : Rd w .u8 a l) (hm0 : l.length = 64) (hlong : 64 < len) :
    Calls Tryd.prog 34 #[.slice a len cap, .agg #[.bool o, .bool i]] w (ResS l o i w) := by
  have HR := Lib.hid hrd
  have hm : ¬ l.length < 64 := by omega
  have hm2 : l.length ≤ 64 := by omega
  have H0 := Lib.hid hm0
  clear hrd hm0
  have e1 := Lib.hid (u_andNot (bm l 34) (escM (bm l 92) o))
  go_enter Tryd.func34, Tryd.ntmps34
  go_wp2
  have HR1 : ∀ (A B C : Obj) (n : Nat), Rd ((((w.alloc A).alloc B).alloc C).drewN n) .u8 a l := fun A B C n => (((HR.out.alloc A).alloc B).alloc C).dN n
  go_quiet ((first | (go_at_call 36; first | exact still (Bits_at a cap l 92 92 _ H0.out.symm rfl hm2 (HR1 _ _ _ _)) | exact still2 (Bits_at a cap l 92 92 _ H0.out.symm rfl hm2 (HR1 _ _ _ _))) | (go_at_call 35; first | exact still (Escaped_any _ _ _) | exact still2 (Escaped_any _ _ _))))
  go_wp2_with (first
    | ((with_reducible refine (Bits_at a cap l 34 34 _ H0.out.symm rfl hm2 (HR1 _ _ _ _)).mono ?_); rintro e w' ⟨rfl, rfl⟩)
    | ((with_reducible refine (Inside_at (sQ l o) _ e1.out _).mono ?_); rintro e w' ⟨rfl, rfl⟩)
    | ((with_reducible refine (firstBits_64 _).mono ?_); rintro e w' ⟨rfl, rfl⟩)
    | ((with_reducible refine (anyOf_op a cap l _ H0.out.symm hm2 (HR1 _ _ _ _)).mono ?_); rintro e w' ⟨rfl, rfl⟩)
    | ((with_reducible refine (anyOf_sh a cap l _ H0.out.symm hm2 (HR1 _ _ _ _)).mono ?_); rintro e w' ⟨rfl, rfl⟩)
    | ((with_reducible refine (anyOf_bl a cap l _ H0.out.symm hm2 (HR1 _ _ _ _)).mono ?_); rintro e w' ⟨rfl, rfl⟩)
    | ((with_reducible refine (Bits_at a cap l 58 58 _ H0.out.symm rfl hm2 (HR1 _ _ _ _)).mono ?_); rintro e w' ⟨rfl, rfl⟩)
    | ((with_reducible refine (Bits_at a cap l 44 44 _ H0.out.symm rfl hm2 (HR1 _ _ _ _)).mono ?_); rintro e w' ⟨rfl, rfl⟩))
  refine bodyPost_ret (v := .tuple #[.agg #[.int .u64 (bits .andNot .u64 (val (bm l 34)) (val (escM (bm l 92) o))), .int .u64 (bits .and .u64 (val (ins (sQ l o) i)) (val (ones 64))), .int .u64 (bits .andNot .u64 (val (orTo l opens 2)) (val (ins (sQ l o) i))), .int .u64 (bits .andNot .u64 (val (orTo l shuts 2)) (val (ins (sQ l o) i))), .int .u64 (bits .andNot .u64 (val (bm l 58)) (val (ins (sQ l o) i))), .int .u64 (bits .andNot .u64 (val (bm l 44)) (val (ins (sQ l o) i))), .int .u64 (bits .andNot .u64 (val (orTo l blanks 4)) (val (ins (sQ l o) i)))], .agg #[.bool (escC (bm l 92) o), .bool (bitAt (ins (sQ l o) i) 63)]]) (by simp [results, Tryd.results34, go_sem]) rfl ?_
  have e64 : ones 64 = ones l.length := by rw [H0.out]
  rw [e64]
  exact resS_of (if_neg hm) (if_neg hm) (bdN ((((Below.refl _ _).alloc (Nat.le_refl _) _).alloc (by simp) _).alloc (by simp; omega) _) _)
theorem Scan_any (a : Option Addr) (cap : Nat) (l : List Nat) (o i : Bool) (w : World) (hl : l.length ≤ 9223372036854775807) (hcap : l.length ≤ cap) (hrd : Rd w .u8 a l) :
    Calls Tryd.prog 34 #[.slice a l.length cap, .agg #[.bool o, .bool i]] w (ResS (l.take 64) o i w) := by
  by_cases h : l.length < 64
  · rw [List.take_of_length_le (by omega)]; exact Scan_less a cap l o i w hcap hrd h
  · by_cases h2 : l.length ≤ 64
    · rw [List.take_of_length_le h2]; exact Scan_eq a cap l o i w hcap hrd h h2
    · exact Scan_more a cap (l.take 64) l.length o i w hcap hl (hrd.take 64) (by simp; omega) (by omega)
end Go.Proofs.YtibgejndlllhfaaDoor
