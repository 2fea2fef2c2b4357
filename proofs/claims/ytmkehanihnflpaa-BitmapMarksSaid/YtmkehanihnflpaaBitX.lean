/- The law BitmapScans walked. -/
import Derived.Test.YtmkehanihnflpaaBitF
import Derived.Test.YtmkehanihnflpaaBitL
namespace Go.Proofs.Ytmkehanihnflpaa
open Go.RowKit BM

/-- the answer of both, by its parts -/
def Gs (l : List Nat) (o i : Bool) (q0 q1 q2 q3 q4 q5 q6 : BitVec 64) (x y : Bool) : Prop :=
  mk (isW l o i 113) l.length = q0 ∧ mk (inW l o i) l.length = q1 ∧ mk (isW l o i 111) l.length = q2 ∧ mk (isW l o i 99) l.length = q3 ∧ mk (isW l o i 58) l.length = q4 ∧ mk (isW l o i 44) l.length = q5 ∧ mk (isW l o i 32) l.length = q6 ∧ stO l o l.length = x ∧ stI l o i l.length = y
theorem Gs_any (l : List Nat) (o i : Bool) : ∃ q0 q1 q2 q3 q4 q5 q6 x y, Gs l o i q0 q1 q2 q3 q4 q5 q6 x y := ⟨_, _, _, _, _, _, _, _, _, rfl, rfl, rfl, rfl, rfl, rfl, rfl, rfl, rfl⟩
def ResG (q0 q1 q2 q3 q4 q5 q6 : BitVec 64) (x y : Bool) (w : World) (e : Ending) (w' : World) : Prop :=
  e = .returned (.tuple #[.agg #[.int .u64 (val q0), .int .u64 (val q1), .int .u64 (val q2), .int .u64 (val q3), .int .u64 (val q4), .int .u64 (val q5), .int .u64 (val q6)], .agg #[.bool x, .bool y]]) ∧ Below w.heap.size w w'
theorem Scan_g {l : List Nat} {o i : Bool} {q0 q1 q2 q3 q4 q5 q6 : BitVec 64} {x y : Bool} (hg : Hid (Gs (l.take 64) o i q0 q1 q2 q3 q4 q5 q6 x y)) (a : Option Addr) (cap : Nat) (w : World) (hl : l.length ≤ 9223372036854775807) (hcap : l.length ≤ cap) (hrd : Rd w .u8 a l) :
    Calls Try.prog 20 #[.slice a l.length cap, .agg #[.bool o, .bool i]] w (ResG q0 q1 q2 q3 q4 q5 q6 x y w) := by
  obtain ⟨h0, h1, h2, h3, h4, h5, h6, hx, hy⟩ := hg.out
  have h := Scan_any a cap l o i w hl hcap hrd
  unfold ResS at h
  have h64 : (l.take 64).length ≤ 64 := by simp; omega
  obtain ⟨e0, e1, e2, e3, e4, e5, e6⟩ := same_masks (l.take 64) o i h64
  obtain ⟨e7, e8⟩ := same_carry (l.take 64) o i h64
  rw [e0, e1, e2, e3, e4, e5, e6, e7, e8, h0, h1, h2, h3, h4, h5, h6, hx, hy] at h
  exact h
theorem ScanR_g {l : List Nat} {o i : Bool} {q0 q1 q2 q3 q4 q5 q6 : BitVec 64} {x y : Bool} (hg : Hid (Gs (l.take 64) o i q0 q1 q2 q3 q4 q5 q6 x y)) (a : Option Addr) (cap : Nat) (w : World) (hl : l.length ≤ 9223372036854775807) (hcap : l.length ≤ cap) (hrd : Rd w .u8 a l) :
    Calls Try.prog 21 #[.slice a l.length cap, .agg #[.bool o, .bool i]] w (ResG q0 q1 q2 q3 q4 q5 q6 x y w) := by
  obtain ⟨h0, h1, h2, h3, h4, h5, h6, hx, hy⟩ := hg.out
  have h := ScanR_any a cap l o i w hl hcap hrd
  unfold ResR vm at h
  rw [h0, h1, h2, h3, h4, h5, h6, hx, hy] at h
  exact h
theorem Mx.new (W : World) (q0 q1 q2 q3 q4 q5 q6 : BitVec 64) (t : TypeId) : Hid (Mx (W.alloc (.cells #[.int .u64 (val q0), .int .u64 (val q1), .int .u64 (val q2), .int .u64 (val q3), .int .u64 (val q4), .int .u64 (val q5), .int .u64 (val q6)] t)) W.heap.size q0 q1 q2 q3 q4 q5 q6) := Lib.hid ⟨by simp, by simp, by simp, by simp, by simp, by simp, by simp⟩
set_option maxRecDepth 100000 in
set_option maxHeartbeats 2000000 in
theorem BitmapScans_any (a : Option Addr) (cap : Nat) (l : List Nat) (o i : Bool) (w : World) (hl : l.length ≤ 9223372036854775807) (hcap : l.length ≤ cap) (hrd : Rd w .u8 a l) :
    Calls Try.prog 7 #[.slice a l.length cap, .agg #[.bool o, .bool i]] w fun e w' => e = .returned (.bool true) ∧ Below w.heap.size w w' := by
  obtain ⟨q0, q1, q2, q3, q4, q5, q6, x, y, hg⟩ := Gs_any (l.take 64) o i
  have HG := Lib.hid hg
  have HR := Lib.hid hrd
  clear hrd hg
  go_enter Try.func7, Try.ntmps7
  go_wp2_with fail
  refine (shown_any _).mono ?_
  rintro r w1 ⟨rfl, hb⟩
  have B0 : Below w.heap.size w (w.alloc (.cells #[.bool o, .bool i] 33)) := (Below.refl _ _).alloc (Nat.le_refl _) _
  have B1 := Lib.hid (B0.trans (hb.mono B0.size))
  have C1 := Cx.below (Cx.new w o i 33) hb
  clear hb B0
  obtain ⟨k0, k1⟩ := C1.out
  go_wp2_with fail
  clear k0 k1
  refine (Scan_g HG a cap _ hl hcap (HR.out.below B1.out)).mono ?_
  rintro r w2 ⟨rfl, hb⟩
  have B2 := Lib.hid (B1.out.trans (hb.mono B1.out.size))
  have C2 := Cx.below C1 hb
  clear hb C1 B1
  have n1 : ¬ w.heap.size = w2.heap.size := by have := Cx.lt C2; omega
  have n2 : ¬ w.heap.size = w2.heap.size + 1 := by have := Cx.lt C2; omega
  have hlt := Cx.lt C2
  obtain ⟨k0, k1⟩ := C2.out
  go_wp2_with fail
  clear k0 k1 n1 n2 hlt
  have bz : Below w2.heap.size w2 ((w2.alloc (.cells #[.int .u64 (val q0), .int .u64 (val q1), .int .u64 (val q2), .int .u64 (val q3), .int .u64 (val q4), .int .u64 (val q5), .int .u64 (val q6)] 35)).alloc (.cells #[.bool x, .bool y] 33)) := ((Below.refl _ _).alloc (Nat.le_refl _) _).alloc (by simp) _
  have B3 := Lib.hid (B2.out.trans (bz.mono B2.out.size))
  have M3 := Mx.below (Mx.new w2 q0 q1 q2 q3 q4 q5 q6 35) ((Below.refl _ _).alloc (Nat.le_refl _) (.cells #[.bool x, .bool y] 33))
  have C3 : Hid (Cx ((w2.alloc (.cells #[.int .u64 (val q0), .int .u64 (val q1), .int .u64 (val q2), .int .u64 (val q3), .int .u64 (val q4), .int .u64 (val q5), .int .u64 (val q6)] 35)).alloc (.cells #[.bool x, .bool y] 33)) (w2.heap.size + 1) x y) := Lib.hid ⟨by simp, by simp⟩
  clear bz C2 B2
  refine (ScanR_g HG a cap _ hl hcap (HR.out.below B3.out)).mono ?_
  rintro r w3 ⟨rfl, hb⟩
  have B4 := Lib.hid (B3.out.trans (hb.mono B3.out.size))
  have M4 := Mx.below M3 hb
  have C4 := Cx.below C3 hb
  clear hb M3 C3 B3
  obtain ⟨m0, m1, m2, m3, m4, m5, m6⟩ := M4.out
  obtain ⟨c0, c1⟩ := C4.out
  have n1 : ¬ w2.heap.size = w3.heap.size := by have := Cx.lt C4; omega
  have n2 : ¬ w2.heap.size = w3.heap.size + 1 := by have := Cx.lt C4; omega
  have n3 : ¬ w2.heap.size + 1 = w3.heap.size := by have := Cx.lt C4; omega
  have n4 : ¬ w2.heap.size + 1 = w3.heap.size + 1 := by have := Cx.lt C4; omega
  have n5 : w2.heap.size + 1 < w3.heap.size := Cx.lt C4
  have n6 : w2.heap.size < w3.heap.size := by omega
  go_wp2
  go_ret
  exact ⟨by simp, (B4.out.alloc B4.out.size _).alloc (by have := B4.out.size; simp; omega) _⟩
end Go.Proofs.Ytmkehanihnflpaa
