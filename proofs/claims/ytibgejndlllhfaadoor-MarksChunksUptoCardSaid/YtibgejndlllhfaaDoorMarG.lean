/- marks: Build walked. -/
import Derived.Test.YtibgejndlllhfaaDoorMarF
namespace Go.Proofs.YtibgejndlllhfaaDoor
open Go.RowKit BM

set_option maxRecDepth 100000 in
set_option maxHeartbeats 1000000 in
theorem Build_any (a : Option Addr) (cap : Nat) (l : List Nat) (w : World) (hl : l.length ≤ 140737488355328) (hcap : l.length ≤ cap) (hr : Rd w .u8 a l) :
    Calls Tryd.prog 12 #[.slice a l.length cap] w (ResIx l w) := by
  have HC : Hid (∀ W, RdP W (some ⟨w.heap.size + 1, 0, none⟩) [l] → Calls Tryd.prog 15 #[.slice (some ⟨w.heap.size + 1, 0, none⟩) 1 1] W (ResIx l W)) := Lib.hid (by
    intro W h
    have e : [l].flatten = l := by simp
    have := Chunks_any (some ⟨w.heap.size + 1, 0, none⟩) 1 [l] W (by show 1 ≤ 9223372036854775807; omega) (by rw [e]; exact hl) h
    rw [e] at this
    exact this)
  have HR := Lib.hid hr
  clear hr
  go_enter Tryd.func12, Tryd.ntmps12
  go_wp2_with fail
  have hx0 : (w.alloc (.cells #[.slice none 0 0, .int .i64 0] 27)).cell? ⟨w.heap.size, 0, none⟩ = some (.slice none 0 0) := by rw [World.cell?_alloc_mark]; rfl
  have hx1 : (w.alloc (.cells #[.slice none 0 0, .int .i64 0] 27)).cell? ⟨w.heap.size, 1, none⟩ = some (.int .i64 0) := by rw [World.cell?_alloc_mark]; rfl
  have hxf : ∀ j, (w.alloc (.cells #[.slice none 0 0, .int .i64 0] 27)).frozen? ⟨w.heap.size, j, none⟩ = false := fun j => by simp
  have hbw := (Below.refl w.heap.size w).alloc (Nat.le_refl _) (.cells #[.slice none 0 0, .int .i64 0] 27)
  have hsz : (w.alloc (.cells #[.slice none 0 0, .int .i64 0] 27)).heap.size = w.heap.size + 1 := by simp
  generalize w.alloc (.cells #[.slice none 0 0, .int .i64 0] 27) = w0 at *
  have hb0 : Below (w.heap.size + 1) w0 (w0.alloc (.cells #[.slice a l.length cap] 22)) := (Below.refl _ _).alloc (by omega) _
  have HP : Hid (RdP (w0.alloc (.cells #[.slice a l.length cap] 22)) (some ⟨w.heap.size + 1, 0, none⟩) [l]) := Lib.hid (fun j p hj => by
    match j, hj with
    | 0, hj =>
      simp at hj; subst hj
      refine ⟨_, _, a, cap, rfl, ?_, hcap, HR.out.below (hbw.trans (hb0.mono (by omega)))⟩
      rw [← hsz, Nat.zero_add, World.cell?_alloc_mark]; rfl
    | j + 1, hj => simp at hj)
  have hs1 : (w0.alloc (.cells #[.slice a l.length cap] 22)).heap.size = w.heap.size + 1 + 1 := by simp; omega
  generalize w0.alloc (.cells #[.slice a l.length cap] 22) = w1 at *
  have HB0 := Lib.hid hb0; have HBW := Lib.hid hbw; have HSZ := Lib.hid hsz; have HS1 := Lib.hid hs1
  have HX0 := Lib.hid hx0; have HX1 := Lib.hid hx1; have HXF := Lib.hid hxf
  clear hb0 hbw hsz hx0 hx1 hxf hs1
  refine (HC.out _ HP.out).mono ?_
  rintro e w2 ⟨a2, c2, rfl, ho, hb⟩
  have B2 : Hid (Below (w.heap.size + 1) w0 w2) := Lib.hid (HB0.out.trans (hb.mono (by rw [HS1.out]; omega)))
  have HO := Lib.hid (ho.mono (B' := w.heap.size + 1) (by rw [HS1.out]; omega))
  have y0 : w2.cell? ⟨w.heap.size, 0, none⟩ = some (.slice none 0 0) := by rw [B2.out.cell (by simp)]; exact HX0.out
  have y1 : w2.cell? ⟨w.heap.size, 1, none⟩ = some (.int .i64 0) := by rw [B2.out.cell (by simp)]; exact HX1.out
  have yf : ∀ j, w2.frozen? ⟨w.heap.size, j, none⟩ = false := fun j => by rw [B2.out.frozen (by simp)]; exact HXF.out j
  clear ho hb HC HP
  go_wp2
  refine bodyPost_ret (v := .agg #[.slice a2 (nw l.length) c2, .int .i64 l.length]) (by simp [results, Tryd.results12, go_sem, y0, y1]) rfl ?_
  exact res_ix rfl HBW.out B2.out HO.out _ _
end Go.Proofs.YtibgejndlllhfaaDoor
