/- The statements' common head: the document's examples. -/
import Derived.Test.YtefaieglhllioaaDoorValK
import Derived.Test.YtefaieglhllioaaDoorQuoL
import Derived.Test.YtefaieglhllioaaDoorQuoV
import Derived.Lib.SlBytesConst
namespace Go.Proofs.YtefaieglhllioaaDoor
open Go.RowKit UM QM VM

theorem Tx.go' {l : List Nat} {m q k k' q2 k2 : Nat} {s s2 : List Bool} {r e : Nat} (h : q < 6) (hb : bk l k = k') (ht : turnF quoF l m q k' s = (q2, k2, s2)) (t : Tx quoF l m q2 k2 s2 r e) : Tx quoF l m q k s r e := by
  refine Tx.go h ?_
  rw [hb, ht]; exact t
theorem Txt.go' {l : List Nat} {m k q2 k2 : Nat} {s2 : List Bool} {r e : Nat} (ht : turnF quoF l m 0 k [] = (q2, k2, s2)) (t : Tx quoF l m q2 k2 s2 r e) : Txt quoF l m k r e := by
  unfold Txt
  rw [ht]; exact t
def v1 : List Nat := [91, 49, 93, 32, 116, 114, 117, 101]
def v2 : List Nat := [49, 50, 120]
def v3 : List Nat := [91, 91, 49, 93, 93]
def v4 : List Nat := [91, 93]
theorem e1 : Ck quoF v1 9 0 [(0, 3), (4, 8)] 8 0 := by
  have b0 : bk v1 0 = 0 := by decide
  have b3 : bk v1 3 = 4 := by decide
  have t0 : Txt quoF v1 9 (bk v1 0) 6 3 := by
    rw [b0]
    exact Txt.go' (q2 := 1) (k2 := 1) (s2 := [false]) rfl (Tx.go' (k' := 1) (q2 := 5) (k2 := 2) (s2 := [false]) (by decide) (by decide) rfl (Tx.go' (k' := 2) (q2 := 6) (k2 := 3) (s2 := []) (by decide) (by decide) rfl (Tx.stop (by decide))))
  have t4 : Txt quoF v1 9 (bk v1 3) 6 8 := by
    rw [b3]
    exact Txt.go' (q2 := 6) (k2 := 8) (s2 := []) rfl (Tx.stop (by decide))
  have c8 : Ck quoF v1 9 8 [] 8 0 := Ck.done (l := v1) (by decide)
  have c3 := Ck.next (k := 3) (by decide) t4 (by decide) c8
  have c0 := Ck.next (k := 0) (by decide) t0 (by decide) c3
  rw [b0, b3] at c0
  exact c0
theorem e2 : Ck quoF v2 9 0 [] 2 1 := by
  have b0 : bk v2 0 = 0 := by decide
  have t0 : Txt quoF v2 9 (bk v2 0) 6 2 := by
    rw [b0]
    exact Txt.go' (q2 := 6) (k2 := 2) (s2 := []) rfl (Tx.stop (by decide))
  have := Ck.last (k := 0) (by decide) t0 (by decide)
  rw [if_pos (by decide)] at this
  exact this
theorem e3 : Ck quoF v3 1 0 [] 1 3 := by
  have b0 : bk v3 0 = 0 := by decide
  have t0 : Txt quoF v3 1 (bk v3 0) 8 1 := by
    rw [b0]
    exact Txt.go' (q2 := 1) (k2 := 1) (s2 := [false]) rfl (Tx.go' (k' := 1) (q2 := 8) (k2 := 1) (s2 := [false]) (by decide) (by decide) rfl (Tx.stop (by decide)))
  exact Ck.bad (l := v3) (k := 0) (by decide) t0 (by decide)
theorem e4 : Txt quoF v4 200 0 6 2 := Txt.go' (q2 := 1) (k2 := 1) (s2 := [false]) rfl (Tx.go' (k' := 1) (q2 := 6) (k2 := 2) (s2 := []) (by decide) (by decide) rfl (Tx.stop (by decide)))
/-- Check, where it is known what it tells -/
def ResCs (sp : List (Nat × Nat)) (j y : Nat) (w : World) (e : Ending) (w' : World) : Prop :=
  ∃ ao c, e = .returned (.tuple #[.slice ao sp.length c, .agg #[.int .i64 (j : Int), .int .i64 (y : Int)]]) ∧ OwnV w' w.heap.size 31 2 ao sp.length c (spc sp) ∧ Below w.heap.size w w'
theorem Check_of {depth : Int} {a : Option Addr} {cap : Nat} {l : List Nat} {w : World} {sp : List (Nat × Nat)} {j y : Nat} (hc : Ck quoF l (mostF depth) 0 sp j y) (hl : l.length ≤ 1000000000000) (hlo : LM.Lo 256 l) (hrd : Rd w .u8 a l) (ht : Sh w) (hcp : l.length ≤ cap) :
    Calls Tryd.prog 8 #[.slice a l.length cap, .int .i64 depth] w (ResCs sp j y w) := by
  refine (Check_any depth a cap l w hl hlo hrd ht hcp).mono ?_
  rintro r w' ⟨sp', j', y', ao, c, hc', rfl, ho, hb⟩
  obtain ⟨rfl, rfl, rfl⟩ := hc'.det hc
  exact ⟨ao, c, rfl, ho, hb⟩
theorem Check_lit {depth : Int} {l : List Nat} {C : Array Value} (hC : C.toList = cs .u8 l) {n : Nat} (hn : n = l.length) (hlo : LM.Lo 256 l) (hs : l.length ≤ 1000) {sp : List (Nat × Nat)} {j y : Nat} (h : Ck quoF l (mostF depth) 0 sp j y) (w : World) (ht : Sh w) (t : TypeId) (f : Nat × Nat) :
    Calls Tryd.prog 8 #[.slice (some ⟨w.heap.size, 0, none⟩) n n, .int .i64 depth] (w.alloc (.cells C t f)) (ResCs sp j y w) := by
  subst hn
  have hb : Below w.heap.size w (w.alloc (.cells C t f)) := (Below.refl _ _).alloc (Nat.le_refl _) _
  refine (Check_of h (by omega) hlo (litRd hC w t f) (ht.below hb) (Nat.le_refl _)).mono ?_
  rintro r w' ⟨ao, c, rfl, h1, h2⟩
  exact ⟨ao, c, rfl, h1.mono hb.size, hb.trans (h2.mono hb.size)⟩
theorem One_of {a : Option Addr} {cap : Nat} {l : List Nat} {w : World} {r j : Nat} (hc : Txt quoF l 200 0 r j) (hl : l.length ≤ 140737488353000) (hlo : LM.Lo 256 l) (hrd : Rd w .u8 a l) (ht : Sh w) (hcp : l.length ≤ cap) :
    Calls Tryd.prog 9 #[.slice a l.length cap] w fun e w' => e = .returned (.bool (decide (r = 6 ∧ j = l.length))) ∧ Below w.heap.size w w' := by
  refine (One_any a cap l w hl hlo hrd ht hcp).mono ?_
  rintro e w' ⟨r', j', hc', rfl, hb⟩
  obtain ⟨rfl, rfl⟩ := hc'.det hc
  exact ⟨rfl, hb⟩
theorem One_lit {l : List Nat} {C : Array Value} (hC : C.toList = cs .u8 l) {n : Nat} (hn : n = l.length) (hlo : LM.Lo 256 l) (hs : l.length ≤ 1000) {r j : Nat} (h : Txt quoF l 200 0 r j) (w : World) (ht : Sh w) (t : TypeId) (f : Nat × Nat) :
    Calls Tryd.prog 9 #[.slice (some ⟨w.heap.size, 0, none⟩) n n] (w.alloc (.cells C t f)) fun e w' => e = .returned (.bool (decide (r = 6 ∧ j = l.length))) ∧ Below w.heap.size w w' := by
  subst hn
  have hb : Below w.heap.size w (w.alloc (.cells C t f)) := (Below.refl _ _).alloc (Nat.le_refl _) _
  refine (One_of h (by omega) hlo (litRd hC w t f) (ht.below hb) (Nat.le_refl _)).mono ?_
  rintro r w' ⟨rfl, h2⟩
  exact ⟨rfl, hb.trans (h2.mono hb.size)⟩
set_option maxRecDepth 100000 in
set_option maxHeartbeats 4000000 in
theorem vshown_any (w : World) (ht : Sh w) : Calls Tryd.prog 7 #[] w fun r w' => r = .returned (.bool true) ∧ Below w.heap.size w w' := by
  have kc := fun (w : World) (C : Array Value) (n c : Nat) => Lib.run_convert_bytes_const (P := Tryd.prog) w 22 5 C n c Tryd.underlying22 Tryd.underlying5
  have HT := Lib.hid ht
  clear ht
  have X1 := Lib.hid (fun W h => Check_lit (depth := 9) (l := v1) (C := #[.int .u8 91, .int .u8 49, .int .u8 93, .int .u8 32, .int .u8 116, .int .u8 114, .int .u8 117, .int .u8 101]) rfl (n := 8) rfl (lo_of (by decide)) (by decide) e1 W h 5 (8, 9))
  have X2 := Lib.hid (fun W h => Check_lit (depth := 9) (l := v2) (C := #[.int .u8 49, .int .u8 50, .int .u8 120]) rfl (n := 3) rfl (lo_of (by decide)) (by decide) e2 W h 5 (3, 4))
  have X3 := Lib.hid (fun W h => Check_lit (depth := 1) (l := v3) (C := #[.int .u8 91, .int .u8 91, .int .u8 49, .int .u8 93, .int .u8 93]) rfl (n := 5) rfl (lo_of (by decide)) (by decide) e3 W h 5 (5, 6))
  have X4 := Lib.hid (fun W h => One_lit (l := v4) (C := #[.int .u8 91, .int .u8 93]) rfl (n := 2) rfl (lo_of (by decide)) (by decide) e4 W h 5 (2, 3))
  go_enter Tryd.func7, Tryd.ntmps7
  go_wp2_with fail
  refine (X1.out _ HT.out).mono ?_
  rintro r w1 ⟨ao, c, hr, ho, hb⟩
  obtain rfl : r = .returned (.tuple #[.slice ao 2 c, .agg #[.int .i64 8, .int .i64 0]]) := hr
  rcases OwnV.shape ho with ⟨_, _, _, h0⟩ | ⟨g1, cur, rfl, _⟩
  · cases h0
  have d2 : w1.cell? ⟨g1, 2, none⟩ = some (.int .i64 4) := ho.cellAt rfl
  have d3 : w1.cell? ⟨g1, 3, none⟩ = some (.int .i64 8) := ho.cellAt rfl
  have G1 : Hid (Goes w w1) := Lib.hid ⟨hb, HT.out.below hb⟩
  have D1 := Lib.hid (show w1.cell? ⟨g1, 2, none⟩ = some (.int .i64 4) ∧ w1.cell? ⟨g1, 3, none⟩ = some (.int .i64 8) from ⟨d2, d3⟩)
  clear ho hb X1 d2 d3
  go_upto_region 2 with (fail)
  have hbA : Below w1.heap.size w1 (w1.alloc (.cells #[.int .i64 8, .int .i64 0] 26)) := (Below.refl _ _).alloc (Nat.le_refl _) _
  have G2 := Lib.hid (G1.out.next hbA)
  have D2 := Lib.hid (show _ ∧ _ ∧ _ ∧ _ from ⟨cellP hbA D1.out.1, cellP hbA D1.out.2, (by simp : (w1.alloc (.cells #[.int .i64 8, .int .i64 0] 26)).cell? ⟨w1.heap.size, 0, none⟩ = some (.int .i64 8)), (by simp : (w1.alloc (.cells #[.int .i64 8, .int .i64 0] 26)).cell? ⟨w1.heap.size, 1, none⟩ = some (.int .i64 0))⟩)
  clear hbA G1 D1
  generalize hbx1 : w1.heap.size = bx1 at *
  clear hbx1
  generalize w1.alloc (.cells #[.int .i64 8, .int .i64 0] 26) = w2 at *
  go_wp2_with fail
  refine (X2.out _ G2.out.2).mono ?_
  rintro r w3 ⟨ao3, c3, hr, ho, hb⟩
  obtain rfl : r = .returned (.tuple #[.slice ao3 0 c3, .agg #[.int .i64 2, .int .i64 1]]) := hr
  have G3 := Lib.hid (G2.out.next hb)
  have D3 := Lib.hid (show _ ∧ _ ∧ _ ∧ _ from ⟨cellP hb D2.out.1, cellP hb D2.out.2.1, cellP hb D2.out.2.2.1, cellP hb D2.out.2.2.2⟩)
  clear ho hb X2 G2 D2
  go_upto_region 3 with (fail)
  have hbA : Below w3.heap.size w3 (w3.alloc (.cells #[.int .i64 2, .int .i64 1] 26)) := (Below.refl _ _).alloc (Nat.le_refl _) _
  have G4 := Lib.hid (G3.out.next hbA)
  have D4 := Lib.hid (show _ ∧ _ ∧ _ ∧ _ ∧ _ ∧ _ from ⟨cellP hbA D3.out.1, cellP hbA D3.out.2.1, cellP hbA D3.out.2.2.1, cellP hbA D3.out.2.2.2, (by simp : (w3.alloc (.cells #[.int .i64 2, .int .i64 1] 26)).cell? ⟨w3.heap.size, 0, none⟩ = some (.int .i64 2)), (by simp : (w3.alloc (.cells #[.int .i64 2, .int .i64 1] 26)).cell? ⟨w3.heap.size, 1, none⟩ = some (.int .i64 1))⟩)
  clear hbA G3 D3
  generalize hbx2 : w3.heap.size = bx2 at *
  clear hbx2
  generalize w3.alloc (.cells #[.int .i64 2, .int .i64 1] 26) = w4 at *
  go_wp2_with fail
  refine (X3.out _ G4.out.2).mono ?_
  rintro r w5 ⟨ao5, c5, hr, ho, hb⟩
  obtain rfl : r = .returned (.tuple #[.slice ao5 0 c5, .agg #[.int .i64 1, .int .i64 3]]) := hr
  have G5 := Lib.hid (G4.out.next hb)
  have hbA : Below w5.heap.size w5 (w5.alloc (.cells #[.int .i64 1, .int .i64 3] 26)) := (Below.refl _ _).alloc (Nat.le_refl _) _
  have G6 := Lib.hid (G5.out.next hbA)
  have D6 := Lib.hid (show _ ∧ _ ∧ _ ∧ _ ∧ _ ∧ _ ∧ _ ∧ _ from ⟨cellP hbA (cellP hb D4.out.1), cellP hbA (cellP hb D4.out.2.1), cellP hbA (cellP hb D4.out.2.2.1), cellP hbA (cellP hb D4.out.2.2.2.1), cellP hbA (cellP hb D4.out.2.2.2.2.1), cellP hbA (cellP hb D4.out.2.2.2.2.2), (by simp : (w5.alloc (.cells #[.int .i64 1, .int .i64 3] 26)).cell? ⟨w5.heap.size, 0, none⟩ = some (.int .i64 1)), (by simp : (w5.alloc (.cells #[.int .i64 1, .int .i64 3] 26)).cell? ⟨w5.heap.size, 1, none⟩ = some (.int .i64 3))⟩)
  clear ho hb X3 G4 D4 hbA G5
  go_upto_region 4 with (fail)
  generalize hbx3 : w5.heap.size = bx3 at *
  clear hbx3
  generalize w5.alloc (.cells #[.int .i64 1, .int .i64 3] 26) = w6 at *
  obtain ⟨d2, d3, f0, f1, g0, g1', h0, h1⟩ := D6.out
  go_wp2_with fail
  refine (X4.out _ G6.out.2).mono ?_
  rintro r w7 ⟨rfl, hb⟩
  have G7 := Lib.hid (G6.out.next hb)
  clear hb
  go_wp2
  go_ret
  exact ⟨rfl, G7.out.1⟩
end Go.Proofs.YtefaieglhllioaaDoor
