/- parens: Rank, Excess; what a node holds. -/
import Derived.Test.YtelagemniheeoaaDoorParB
namespace Go.Proofs.YtelagemniheeoaaDoor
open Go.RowKit BM

theorem clp_le (n : Nat) (i : Int) : clp n i ≤ n := by unfold clp; omega
theorem rs_get {v : VD} (h : v.rok) {k : Nat} (hk : k ≤ v.n / 64) : v.rs[k]? = some (rk v.f (64 * k)) := by
  rw [h.2.2, List.getElem?_map, List.getElem?_range (by omega)]; rfl
def ResI (x : Int) (w : World) (e : Ending) (w' : World) : Prop := e = .returned (.int .i64 x) ∧ Below w.heap.size w w'
def ResB (x : Bool) (w : World) (e : Ending) (w' : World) : Prop := e = .returned (.bool x) ∧ Below w.heap.size w w'
theorem Rank_zero (p : Option Addr) (n : Nat) (i : Int) (hn : n ≤ 1125899906842624) (w : World) (h : LenIs w p n) (hi : clp n i = 0) : Calls Tryd.prog 16 #[.pointer p, .int .i64 i] w fun e w' => e = .returned (.int .i64 0) ∧ w = w' := by
  have hc := clip_any p n i hn w h
  rw [hi] at hc
  have HC := Lib.hid hc
  clear hc hi h
  go_enter Tryd.func16, Tryd.ntmps16
  go_wp2_with (refine HC.out.mono ?_; rintro e w' ⟨rfl, rfl⟩)
  go_ret
  exact ⟨rfl, rfl⟩
theorem clp_pos {n : Nat} {i : Int} (h : clp n i ≠ 0) : 1 ≤ clp n i := by omega
set_option maxHeartbeats 1000000 in
theorem Rank_any (b : Nat) (v : VD) (i : Int) (w : World) (h : VX w b v) (hv : v.rok) : Calls Tryd.prog 16 #[.pointer (some ⟨b, 0, none⟩), .int .i64 i] w fun e w' => e = .returned (.int .i64 (rk v.f (clp v.n i))) ∧ ∃ m, w' = w.drewN m := by
  have hn := hv.2.1
  have hc := clip_any _ v.n i hn w h.len
  by_cases h0 : clp v.n i = 0
  · rw [h0]
    exact (Rank_zero _ v.n i hn w h.len h0).mono fun e w' ⟨h1, h2⟩ => ⟨h1, 0, h2.symm⟩
  · have hp := clp_le v.n i
    generalize clp v.n i = p at *
    have hp0 : 0 < p := by omega
    have hp1 : ((p : Int) == 0) = false := by simp; omega
    have hr := rs_get hv (k := p / 64) (by omega)
    have hrb := rk_le v.f (64 * (p / 64))
    obtain ⟨rb, ro, hra, hrc⟩ := h.2.2.1 _ _ (nv8_get hr)
    have c2 := h.1.2.2.1
    have hrl : p / 64 < v.rs.length := (List.getElem?_eq_some_iff.1 hr).1
    by_cases hm : p % 64 = 0
    · have e : rk v.f p = rk v.f (64 * (p / 64)) := by congr 1; omega
      rw [e]
      rw [hra] at c2
      have hm2 : ¬ (0 : Int) < (p : Int) % 64 := by omega
      have HC := Lib.hid hc
      clear hc e h hv hr hra hm h0
      generalize rk v.f (64 * (p / 64)) = r at *
      generalize v.rs.length = nl at *
      generalize v.rc = ncap at *
      generalize v.n = vn at *
      clear v
      go_enter Tryd.func16, Tryd.ntmps16
      go_wp2_with (refine HC.out.mono ?_; rintro e w' ⟨rfl, rfl⟩)
      go_ret
      exact ⟨rfl, 0, rfl⟩
    · obtain ⟨x, hx, -⟩ := word_at hv (k := p - 1) (by omega)
      rw [show (p - 1) / 64 = p / 64 by omega] at hx
      have e : rk v.f p = rk v.f (64 * (p / 64)) + pc x (p % 64) := by
        have := rk_word hx (p % 64) (by omega)
        rw [show 64 * (p / 64) + p % 64 = p by omega] at this
        exact this
      obtain ⟨xb, xo, hxa, hxc⟩ := h.2.1 _ _ (wv8_get hx)
      have c0 := h.1.1
      have hwl : p / 64 < v.ws.length := (List.getElem?_eq_some_iff.1 hx).1
      rw [e]
      rw [hra] at c2
      rw [hxa] at c0
      have hm2 : (0 : Int) < (p : Int) % 64 := by omega
      have hpm := pc_mask x (m := p % 64) (by omega)
      have hpl := pc_le x (p % 64)
      have hpop := fun w => pop_any (x &&& lowm (p % 64)) w
      rw [hpm] at hpop
      have ek : bits .and .u64 (val x) (IntKind.u64.wrap (IntKind.u64.wrap (2 ^ (p % 64)) - 1)) = val (x &&& lowm (p % 64)) := by
        rw [u_one, i_1, u_sub, u_and]; rfl
      have EK := Lib.hid ek
      have HC := Lib.hid hc
      have HP := Lib.hid hpop
      have HM := Lib.hid hm
      clear hc e h hv hr hra hx hxa hpm h0 ek hpop hm
      have s1 : IntKind.i64.wrap (((rk v.f (64 * (p / 64)) : Nat) : Int) + ((pc x (p % 64) : Nat) : Int)) = ((rk v.f (64 * (p / 64)) : Nat) : Int) + ((pc x (p % 64) : Nat) : Int) := IntWalk.i64_in _ (by omega)
      generalize rk v.f (64 * (p / 64)) = r at *
      generalize v.rs.length = nl at *
      generalize v.ws.length = nw8 at *
      generalize v.rc = ncap at *
      generalize v.wc = wcap at *
      generalize v.n = vn at *
      clear v
      generalize pc x (p % 64) = q at *
      go_enter Tryd.func16, Tryd.ntmps16
      go_wp2_with (refine HC.out.mono ?_; rintro e w' ⟨rfl, rfl⟩)
      go_upto_region 6 with (fail)
      go_quiet ((go_at_call 39; rw [EK.out]; first | exact still (HP.out _) | exact still2 (HP.out _)))
      go_wp2
      go_ret
      exact ⟨ret_int (by omega), _, rfl⟩
end Go.Proofs.YtelagemniheeoaaDoor
