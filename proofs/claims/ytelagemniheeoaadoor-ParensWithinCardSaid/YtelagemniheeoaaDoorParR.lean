/- parens: what hangs on the bits alone; a vector that nobody made; Directory. -/
import Derived.Test.YtelagemniheeoaaDoorParQ
import Derived.Test.YtelagemniheeoaaDoorParH
import Derived.Test.YtelagemniheeoaaDoorParI
namespace Go.Proofs.YtelagemniheeoaaDoor
open Go.RowKit BM

theorem ex_cong {f g : Nat → Bool} {n : Nat} (h : ∀ i, i < n → f i = g i) : ex f n = ex g n := by unfold ex; rw [rk_cong h]
theorem seek_cong {g1 g2 : Nat → Int} {e : Int} : ∀ {ps : List Nat} {k : Nat}, (∀ p ∈ ps, g1 p = g2 p) → seek g1 e ps k = seek g2 e ps k
  | [], _, _ => rfl
  | p :: ps, k, h => by
    unfold seek
    rw [h p (by simp)]
    split
    · rfl
    · exact seek_cong (fun q hq => h q (List.mem_cons_of_mem _ hq))
def Agr (f g : Nat → Bool) (n : Nat) : Prop := ∀ i, i < n → f i = g i
theorem Agr.ex {f g : Nat → Bool} {n : Nat} (h : Agr f g n) {p : Nat} (hp : p ≤ n) : ex f p = ex g p := ex_cong (fun i hi => h i (by omega))
theorem Agr.up {f g : Nat → Bool} {n : Nat} (h : Agr f g n) (i : Int) (e : Int) (k : Nat) : seek (BM.ex f) e (rst true n 0 i) k = seek (BM.ex g) e (rst true n 0 i) k := seek_cong fun p hp => h.ex (by unfold rst at hp; rw [if_pos rfl, iv_mem] at hp; omega)
theorem Agr.down {f g : Nat → Bool} {n : Nat} (h : Agr f g n) {i : Int} (hi : i ≤ n) (e : Int) (k : Nat) : seek (BM.ex f) e (rst false n 0 i) k = seek (BM.ex g) e (rst false n 0 i) k := seek_cong fun p hp => h.ex (by unfold rst at hp; rw [if_neg (by simp), iv_mem, lo0] at hp; omega)
theorem Agr.opn {f g : Nat → Bool} {n : Nat} (h : Agr f g n) (i : Int) : opn f n i = opn g n i := by
  unfold Proofs.YtelagemniheeoaaDoor.opn
  cases hh : hasB n i with
  | false => rfl
  | true =>
    obtain ⟨k, rfl, hk⟩ := hasB_nat hh
    rw [Int.toNat_natCast, h k hk]
theorem Agr.cls {f g : Nat → Bool} {n : Nat} (h : Agr f g n) (i : Int) : cls f n i = cls g n i := by
  unfold Proofs.YtelagemniheeoaaDoor.cls
  rw [h.opn]
  split
  · rename_i ho
    obtain ⟨k, rfl, hk, _⟩ := opn_nat ho
    rw [Int.toNat_natCast, show clq f n k = clq g n k by unfold clq; rw [h.ex (Nat.le_of_lt hk), h.up]]
  · rfl
theorem Agr.opo {f g : Nat → Bool} {n : Nat} (h : Agr f g n) (i : Int) : opo f n i = opo g n i := by
  unfold Proofs.YtelagemniheeoaaDoor.opo
  cases hh : hasB n i with
  | false => rfl
  | true =>
    obtain ⟨k, rfl, hk⟩ := hasB_nat hh
    rw [Int.toNat_natCast, h k hk, h.ex (show k + 1 ≤ n from hk), h.down (by omega)]
theorem Agr.enq {f g : Nat → Bool} {n k : Nat} (h : Agr f g n) (hk : k < n) : enq f n k = enq g n k := by
  unfold Proofs.YtelagemniheeoaaDoor.enq
  rw [h.ex (Nat.le_of_lt hk), h.ex (show k + 1 ≤ n from hk), h.down (by omega)]
theorem Agr.enc {f g : Nat → Bool} {n : Nat} (h : Agr f g n) (i : Int) : enc f n i = enc g n i := by
  unfold Proofs.YtelagemniheeoaaDoor.enc
  cases hh : hasB n i with
  | false => rfl
  | true =>
    obtain ⟨k, rfl, hk⟩ := hasB_nat hh
    rw [Int.toNat_natCast, h.enq hk, h.cls]
theorem Agr.siz {f g : Nat → Bool} {n : Nat} (h : Agr f g n) (i : Int) : siz f n i = siz g n i := by
  unfold Proofs.YtelagemniheeoaaDoor.siz; rw [h.cls]
theorem Agr.chl {f g : Nat → Bool} {n : Nat} (h : Agr f g n) (i k : Int) : chl f n i k = chl g n i k := by
  unfold Proofs.YtelagemniheeoaaDoor.chl
  rw [h.cls]
  split
  · rfl
  · rename_i hc
    have hb := cls_bd g n i
    obtain ⟨j, rfl⟩ : ∃ j : Nat, i = j := ⟨i.toNat, by omega⟩
    rw [Int.toNat_natCast, show chq f n j k.toNat = chq g n j k.toNat by unfold chq; rw [h.ex (by omega), h.up]]
theorem selN_cong {f g : Nat → Bool} {k : Nat} : ∀ {n : Nat}, Agr f g n → selN f k n = selN g k n
  | 0, _ => rfl
  | n + 1, h => by
    unfold selN
    rw [rk_cong (fun i hi => h i (by omega)), selN_cong (fun i hi => h i (by omega))]
theorem Agr.sel {f g : Nat → Bool} {n : Nat} (h : Agr f g n) (k : Int) : sel f n k = sel g n k := by
  unfold Proofs.YtelagemniheeoaaDoor.sel
  rw [rk_cong h, selN_cong h]
theorem Agr.rk {f g : Nat → Bool} {n : Nat} (h : Agr f g n) {p : Nat} (hp : p ≤ n) : rk f p = rk g p := rk_cong (fun i hi => h i (by omega))
theorem Select_any (b : Nat) (v : VD) (k : Int) (w : World) (hT : Tb w) (hV : VX0 w b v) :
    Calls Tryd.prog 20 #[.pointer (some ⟨b, 0, none⟩), .int .i64 k] w (ResI (sel v.f v.n k) w) := by
  unfold sel
  by_cases h : k < 0 ∨ (rk v.f v.n : Int) ≤ k
  · rw [if_pos h]
    exact Select_no _ v.n k w (rk v.f v.n) hV.1.len (fun W hb => by have := Rank_any b v v.n W (hV.1.below hb) hV.2.1.1; rw [clp_nat'] at this; exact this) h
  · rw [if_neg h]
    obtain ⟨q, rfl⟩ : ∃ q : Nat, k = q := ⟨k.toNat, by omega⟩
    exact Select_yes b v q _ w hT hV.1 hV.2.1.1 (by omega) (by rw [Int.toNat_natCast])

/- A VECTOR THAT NOBODY MADE -/
theorem hasB_0 (i : Int) : hasB 0 i = false := by
  unfold hasB
  cases h : decide (0 ≤ i) with
  | false => rfl
  | true => simp at h ⊢; exact h
theorem clp_0 (i : Int) : clp 0 i = 0 := by unfold clp; omega
theorem Rank0 (p : Option Addr) (i : Int) (w : World) (h : LenIs w p 0) : Calls Tryd.prog 16 #[.pointer p, .int .i64 i] w fun e w' => e = .returned (.int .i64 0) ∧ w = w' := Rank_zero p 0 i (by omega) w h (clp_0 i)
theorem Opens0 (p : Option Addr) (i : Int) (w : World) (h : LenIs w p 0) : Calls Tryd.prog 14 #[.pointer p, .int .i64 i] w fun e w' => e = .returned (.bool false) ∧ w = w' := Opens_no p 0 i w h (hasB_0 i)
theorem Select0 (p : Option Addr) (k : Int) (w : World) (h : LenIs w p 0) : Calls Tryd.prog 20 #[.pointer p, .int .i64 k] w (ResI (-1) w) :=
  Select_no p 0 k w 0 h (fun W hb => (Rank0 p 0 W (h.below hb)).mono fun e w' ⟨a, b⟩ => ⟨a, 0, b.symm⟩) (by omega)
theorem Excess0 (p : Option Addr) (i : Int) (w : World) (h : LenIs w p 0) : Calls Tryd.prog 18 #[.pointer p, .int .i64 i] w fun e w' => e = .returned (.int .i64 0) ∧ w = w' := by
  have HR := Lib.hid (Rank0 p i w h)
  have hc := clip_any p 0 i (by omega) w h
  rw [clp_0] at hc
  have HC := Lib.hid hc
  clear hc h
  go_enter Tryd.func18, Tryd.ntmps18
  go_wp2_with fail
  refine HR.out.mono ?_
  rintro e w' ⟨rfl, rfl⟩
  go_wp2_with fail
  refine HC.out.mono ?_
  rintro e w' ⟨rfl, rfl⟩
  go_wp2
  go_ret
  exact ⟨rfl, rfl⟩
theorem Close0 (p : Option Addr) (i : Int) (w : World) (h : LenIs w p 0) : Calls Tryd.prog 22 #[.pointer p, .int .i64 i] w fun e w' => e = .returned (.int .i64 (-1)) ∧ w = w' := by
  have HO := Lib.hid (Opens0 p i w h)
  clear h
  go_enter Tryd.func22, Tryd.ntmps22
  go_wp2_with fail
  refine HO.out.mono ?_
  rintro r w1 ⟨rfl, rfl⟩
  go_wp2
  go_ret
  exact ⟨rfl, rfl⟩
theorem Open0 (p : Option Addr) (i : Int) (w : World) (h : LenIs w p 0) : Calls Tryd.prog 24 #[.pointer p, .int .i64 i] w fun e w' => e = .returned (.int .i64 (-1)) ∧ w = w' := by
  have hh := has_any p 0 i w h
  rw [hasB_0] at hh
  have HO := Lib.hid hh
  clear h hh
  go_enter Tryd.func24, Tryd.ntmps24
  go_wp2_with fail
  refine HO.out.mono ?_
  rintro r w1 ⟨rfl, rfl⟩
  go_wp2
  go_ret
  exact ⟨rfl, rfl⟩
theorem Enclose0 (p : Option Addr) (i : Int) (w : World) (h : LenIs w p 0) : Calls Tryd.prog 26 #[.pointer p, .int .i64 i] w fun e w' => e = .returned (.int .i64 (-1)) ∧ w = w' := by
  have hh := has_any p 0 i w h
  rw [hasB_0] at hh
  have HO := Lib.hid hh
  clear h hh
  go_enter Tryd.func26, Tryd.ntmps26
  go_wp2_with fail
  refine HO.out.mono ?_
  rintro r w1 ⟨rfl, rfl⟩
  go_wp2
  go_ret
  exact ⟨rfl, rfl⟩
theorem Size0 (p : Option Addr) (i : Int) (w : World) (h : LenIs w p 0) : Calls Tryd.prog 28 #[.pointer p, .int .i64 i] w fun e w' => e = .returned (.int .i64 0) ∧ w = w' := by
  have HO := Lib.hid (Close0 p i w h)
  clear h
  go_enter Tryd.func28, Tryd.ntmps28
  go_wp2_with fail
  refine HO.out.mono ?_
  rintro r w1 ⟨rfl, rfl⟩
  go_wp2
  go_ret
  exact ⟨rfl, rfl⟩
theorem Child0 (p : Option Addr) (i k : Int) (w : World) (h : LenIs w p 0) : Calls Tryd.prog 30 #[.pointer p, .int .i64 i, .int .i64 k] w (ResI (-1) w) := by
  have b1 := (Below.refl w.heap.size w).alloc (Nat.le_refl _) (.cells #[.int .i64 k] 3)
  have HO := Lib.hid (Close0 p i (w.alloc (.cells #[.int .i64 k] 3)) (h.below b1))
  have hd : decide ((-1 : Int) < 0) = true := by decide
  clear h
  go_enter Tryd.func30, Tryd.ntmps30
  go_wp2_with fail
  refine HO.out.mono ?_
  rintro r w1 ⟨rfl, rfl⟩
  go_wp2
  go_ret
  exact ⟨rfl, b1⟩
end Go.Proofs.YtelagemniheeoaaDoor
