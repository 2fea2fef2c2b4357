/- The document's Build, Same, walked. -/
import Derived.Test.YtibgejndlllhfaaDoorMarL
namespace Go.Proofs.YtibgejndlllhfaaDoor
open Go.RowKit BM

set_option maxRecDepth 100000 in
set_option maxHeartbeats 2000000 in
theorem Same_any (a b : Option Addr) (n ca cb : Nat) (xs : List MS) (len : Int) (w : World) (hn : xs.length = n) (hl : n ≤ 2600000000000) (ha : RdM w a xs) (hb : RdM w b xs) :
    Calls Tryd.prog 11 #[.agg #[.slice a n ca, .int .i64 len], .agg #[.slice b n cb, .int .i64 len]] w fun e w' => e = .returned (.bool true) ∧ Below w.heap.size w w' := by
  have HA := Lib.hid ha
  have HB := Lib.hid hb
  have HN := Lib.hid hn
  clear ha hb hn
  go_enter Tryd.func11, Tryd.ntmps11
  go_wp2_with fail
  have IA := Ix.below (Ix.mk w a n ca len 27 (0, 0)) ((Below.refl _ _).alloc (Nat.le_refl _) (.cells #[.slice b n cb, .int .i64 len] 27))
  have IB : Hid (Ix ((w.alloc (.cells #[.slice a n ca, .int .i64 len] 27)).alloc (.cells #[.slice b n cb, .int .i64 len] 27)) (w.heap.size + 1) b n cb len) := by
    have := Ix.mk (w.alloc (.cells #[.slice a n ca, .int .i64 len] 27)) b n cb len 27 (0, 0)
    simpa using this
  have B0 := Lib.hid (((Below.refl w.heap.size w).alloc (Nat.le_refl _) (.cells #[.slice a n ca, .int .i64 len] 27)).alloc (by simp) (.cells #[.slice b n cb, .int .i64 len] 27))
  generalize (w.alloc (.cells #[.slice a n ca, .int .i64 len] 27)).alloc (.cells #[.slice b n cb, .int .i64 len] 27) = w0 at *
  go_loopw [5] (fun s5 wr => ∃ k : Nat, k ≤ n ∧ s5 = .int .i64 k ∧ Hid (Below w.heap.size w wr) ∧ Hid (Ix wr w.heap.size a n ca len) ∧ Hid (Ix wr (w.heap.size + 1) b n cb len)) (fun s5 _ => n - (intOf s5).toNat)
  case atStart => exact ⟨0, by omega, rfl, B0, IA, IB⟩
  case round =>
    obtain ⟨k, hk, rfl, BR, JA, JB⟩ := hrel
    obtain ⟨x0, x1⟩ := JA.out
    obtain ⟨y0, y1⟩ := JB.out
    by_cases hlt : k < n
    · obtain ⟨x, hx⟩ : ∃ x, xs[k]? = some x := ⟨_, List.getElem?_eq_getElem (by rw [HN.out]; exact hlt)⟩
      obtain ⟨g1, o1, rfl, ⟨m0, m1, m2, m3, m4, m5, m6⟩⟩ := (HA.out.below BR.out) k x hx
      obtain ⟨g2, o2, rfl, ⟨n0, n1, n2, n3, n4, n5, n6⟩⟩ := (HB.out.below BR.out) k x hx
      clear hx
      have hlt2 : (k : Int) < n := by omega
      have hk0 : (0 : Int) ≤ k := by omega
      go_upto_region 6 with (fail)
      go_quiet (fail)
      clear m0 m1 m2 m3 m4 m5 m6 n0 n1 n2 n3 n4 n5 n6 x0 x1 y0 y1
      have BR2 : Hid (Below w.heap.size w (wr.drewN nq)) := Lib.hid (bdN BR.out nq)
      have JA2 : Hid (Ix (wr.drewN nq) w.heap.size _ n ca len) := JA
      have JB2 : Hid (Ix (wr.drewN nq) (w.heap.size + 1) _ n cb len) := JB
      generalize wr.drewN nq = w2 at *
      go_wp2
      go_roundw
      case rel => exact ⟨k + 1, by omega, by go_num, BR2, JA2, JB2⟩
      case measure => simp [intOf]; omega
    · go_wp2
      go_ret
      exact ⟨rfl, BR.out⟩
theorem Fz.set {W : World} {b : Nat} (h : Hid (Fz W b)) (p : Addr) (v : Value) : Hid (Fz (W.setCell p v) b) := Lib.hid fun k => by rw [World.frozen?_setCell]; exact h.out k
theorem Fz.new (W : World) (arr : Array Value) (t : TypeId) : Hid (Fz (W.alloc (.cells arr t)) W.heap.size) := Lib.hid fun k => by simp
theorem Ix.set0 {W : World} {b : Nat} {a : Option Addr} {n c : Nat} {len : Int} (h : Hid (Ix W b a n c len)) (a' : Option Addr) (n' c' : Nat) : Hid (Ix (W.setCell ⟨b, 0, none⟩ (.slice a' n' c')) b a' n' c' len) := by
  obtain ⟨h0, h1⟩ := h.out
  exact Lib.hid ⟨World.cell?_setCell_same _ _ _ h0, by rw [World.cell?_setCell_other _ _ _ _ (by simp)]; exact h1⟩
theorem Ix.setO {W : World} {b : Nat} {a : Option Addr} {n c : Nat} {len : Int} (h : Hid (Ix W b a n c len)) (p : Addr) (v : Value) (hp : b ≠ p.block) : Hid (Ix (W.setCell p v) b a n c len) := by
  obtain ⟨h0, h1⟩ := h.out
  have e : ∀ j, (W.setCell p v).cell? ⟨b, j, none⟩ = W.cell? ⟨b, j, none⟩ := fun j => cellOfBlock (heap_setCell_other W p b v hp) j
  exact Lib.hid ⟨by rw [e, h0], by rw [e, h1]⟩
theorem Ix.belowB {B : Nat} {w w' : World} {b : Nat} {a : Option Addr} {n c : Nat} {len : Int} (h : Hid (Ix w b a n c len)) (hb : Below B w w') (hB : b < B) : Hid (Ix w' b a n c len) := Lib.hid ⟨by rw [hb.cell hB]; exact h.out.1, by rw [hb.cell hB]; exact h.out.2⟩
theorem Cx.setO {W : World} {b : Nat} {x y : Bool} (h : Hid (Cx W b x y)) (p : Addr) (v : Value) (hp : b ≠ p.block) : Hid (Cx (W.setCell p v) b x y) := by
  have e : ∀ j, (W.setCell p v).cell? ⟨b, j, none⟩ = W.cell? ⟨b, j, none⟩ := fun j => cellOfBlock (heap_setCell_other W p b v hp) j
  exact Lib.hid ⟨by rw [e]; exact h.out.1, by rw [e]; exact h.out.2⟩
theorem Cx.belowB {B : Nat} {w w' : World} {b : Nat} {x y : Bool} (h : Hid (Cx w b x y)) (hb : Below B w w') (hB : b < B) : Hid (Cx w' b x y) := Lib.hid ⟨by rw [hb.cell hB]; exact h.out.1, by rw [hb.cell hB]; exact h.out.2⟩
theorem Fz.belowB {B : Nat} {w w' : World} {b : Nat} (h : Hid (Fz w b)) (hb : Below B w w') (hB : b < B) : Hid (Fz w' b) := Lib.hid fun k => by rw [hb.frozen (p := ⟨b, k, none⟩) hB]; exact h.out k
set_option maxRecDepth 100000 in
set_option maxHeartbeats 2000000 in
theorem BuildR_any (a : Option Addr) (cap : Nat) (l : List Nat) (w : World) (hl : l.length ≤ 140737488355328) (hcap : l.length ≤ cap) (hr : Rd w .u8 a l) :
    Calls Tryd.prog 13 #[.slice a l.length cap] w (ResIx l w) := by
  have HR := Lib.hid hr
  clear hr
  go_enter Tryd.func13, Tryd.ntmps13
  go_wp2_with fail
  have hI0 := Ix.below (Ix.below (Ix.mk w none 0 0 0 27 (0, 0)) ((Below.refl _ _).alloc (Nat.le_refl _) (.cells #[.slice none 0 0, .int .i64 l.length] 27))) ((Below.refl _ _).alloc (Nat.le_refl _) (.cells #[.bool false, .bool false] 51))
  have hI1 := Ix.below (Ix.mk (w.alloc (.cells #[.slice none 0 0, .int .i64 0] 27)) none 0 0 l.length 27 (0, 0)) ((Below.refl _ _).alloc (Nat.le_refl _) (.cells #[.bool false, .bool false] 51))
  have hC2 := Cx.new ((w.alloc (.cells #[.slice none 0 0, .int .i64 0] 27)).alloc (.cells #[.slice none 0 0, .int .i64 l.length] 27)) false false 51
  have hF0 := Fz.below (Fz.below (Fz.new w #[.slice none 0 0, .int .i64 0] 27) (by simp) ((Below.refl _ _).alloc (Nat.le_refl _) (.cells #[.slice none 0 0, .int .i64 l.length] 27))) (by simp; omega) ((Below.refl _ _).alloc (Nat.le_refl _) (.cells #[.bool false, .bool false] 51))
  have hF1 := Fz.below (Fz.new (w.alloc (.cells #[.slice none 0 0, .int .i64 0] 27)) #[.slice none 0 0, .int .i64 l.length] 27) (by simp) ((Below.refl _ _).alloc (Nat.le_refl _) (.cells #[.bool false, .bool false] 51))
  have hF2 := Fz.new ((w.alloc (.cells #[.slice none 0 0, .int .i64 0] 27)).alloc (.cells #[.slice none 0 0, .int .i64 l.length] 27)) #[.bool false, .bool false] 51
  have B0 := (((Below.refl w.heap.size w).alloc (Nat.le_refl _) (.cells #[.slice none 0 0, .int .i64 0] 27)).alloc (by simp) (.cells #[.slice none 0 0, .int .i64 l.length] 27)).alloc (by simp; omega) (.cells #[.bool false, .bool false] 51)
  have s1 : (w.alloc (.cells #[.slice none 0 0, .int .i64 0] 27)).heap.size = w.heap.size + 1 := by simp
  have s2 : ((w.alloc (.cells #[.slice none 0 0, .int .i64 0] 27)).alloc (.cells #[.slice none 0 0, .int .i64 l.length] 27)).heap.size = w.heap.size + 1 + 1 := by simp
  have s3 : (((w.alloc (.cells #[.slice none 0 0, .int .i64 0] 27)).alloc (.cells #[.slice none 0 0, .int .i64 l.length] 27)).alloc (.cells #[.bool false, .bool false] 51)).heap.size = w.heap.size + 1 + 1 + 1 := by simp
  rw [s1] at hI1 hF1
  rw [s2] at hC2 hF2
  generalize ((w.alloc (.cells #[.slice none 0 0, .int .i64 0] 27)).alloc (.cells #[.slice none 0 0, .int .i64 l.length] 27)).alloc (.cells #[.bool false, .bool false] 51) = w0 at *
  have HB0 := Lib.hid B0
  have HS3 := Lib.hid s3
  clear B0 s1 s2 s3
  go_loopw [5] (fun s5 wr => ∃ (k at' : Nat) (ao : Option Addr) (c2 : Nat) (o i : Bool), at' ≤ l.length + 64 ∧ s5 = .int .i64 at' ∧ Hid (at' = 64 * k) ∧ Hid (at' < l.length → o = stO l false at' ∧ i = stI l false false at') ∧ Hid (l.length + 63 < at' + 64 * 1 + 63 → True) ∧ Hid (k ≤ nw l.length) ∧ Hid (Ix wr w.heap.size none 0 0 0) ∧ Hid (Ix wr (w.heap.size + 1) ao k c2 l.length) ∧ Hid (Cx wr (w.heap.size + 1 + 1) o i) ∧ Hid (Fz wr w.heap.size) ∧ Hid (Fz wr (w.heap.size + 1)) ∧ Hid (Fz wr (w.heap.size + 1 + 1)) ∧ Hid (OwnV wr (w.heap.size + 1 + 1 + 1) 49 7 ao k c2 (mcs (wds l k))) ∧ Hid (Below w.heap.size w wr) ∧ Hid (w.heap.size + 1 + 1 + 1 ≤ wr.heap.size)) (fun s5 _ => l.length + 64 - (intOf s5).toNat)
  case atStart => exact ⟨0, 0, none, 0, false, false, by omega, rfl, Lib.hid rfl, Lib.hid (fun _ => ⟨rfl, rfl⟩), Lib.hid (fun _ => trivial), Lib.hid (Nat.zero_le _), hI0, hI1, hC2, hF0, hF1, hF2, Lib.hid (OwnV.nil _ _ _ _), HB0, Lib.hid (by rw [HS3.out]; omega)⟩
  case round =>
    obtain ⟨k, at', ao, c2, o, i, hat, rfl, HK, HOI, _, HKN, J0, J1, J2, F0, F1, F2, HO, BR, HSZ⟩ := hrel
    by_cases hlt : at' < l.length
    · have hoi := HOI.out hlt
      have hx0 : ms ((l.drop at').take 64) o i = wd l k := by
        rw [hoi.1, hoi.2, HK.out]; rfl
      have HX := Lib.hid hx0
      have hk1 : k < nw l.length := by have := HK.out; unfold nw; omega
      have HNX : Hid (at' + 64 < l.length → stO ((l.drop at').take 64) o ((l.drop at').take 64).length = stO l false (at' + 64) ∧ stI ((l.drop at').take 64) o i ((l.drop at').take 64).length = stI l false false (at' + 64)) := Lib.hid (fun h => by
        have e : ((l.drop at').take 64).length = 64 := by simp; omega
        rw [e, hoi.1, hoi.2, HK.out]
        exact ⟨ch_stO l k (Nat.le_refl 64), ch_stI l k (Nat.le_refl 64)⟩)
      obtain ⟨pb, po, rfl, _⟩ := HR.out.at (by omega)
      have HR := Lib.hid ((HR.out.below BR.out).drop at')
      have HS : Hid (∀ w', Rd w' .u8 (some ⟨pb, po + at', none⟩) (l.drop at') → Calls Tryd.prog 23 #[.slice (some ⟨pb, po + at', none⟩) (l.length - at') (cap - at'), .agg #[.bool o, .bool i]] w' (ResM (ms ((l.drop at').take 64) o i) (stO ((l.drop at').take 64) o ((l.drop at').take 64).length) (stI ((l.drop at').take 64) o i ((l.drop at').take 64).length) w')) := Lib.hid (by
        intro w' h
        have e : (l.drop at').length = l.length - at' := by simp
        have := ScanR_m (some ⟨pb, po + at', none⟩) (cap - at') (l.drop at') o i w' (by rw [e]; omega) (by rw [e]; omega) h
        rw [e] at this
        exact this)
      clear hoi hx0
      generalize ms ((l.drop at').take 64) o i = x at *
      generalize stO ((l.drop at').take 64) o ((l.drop at').take 64).length = o2 at *
      generalize stI ((l.drop at').take 64) o i ((l.drop at').take 64).length = i2 at *
      unfold ResM at HS
      rw [MS.v_eq] at HS
      have a1 : (0 : Int) ≤ at' := by omega
      have a2 : (at' : Int) ≤ l.length := by omega
      have a3 : (at' : Int) ≤ cap := by omega
      have a4 : ¬ cap = at' := by omega
      go_upto_region 6 with (fail)
      obtain ⟨c0, c1⟩ := J2.out
      have hbl := Cx.lt J2
      have nb1 : ¬ w.heap.size + 1 + 1 = wr.heap.size := by omega
      have nb2 : ¬ wr.heap.size = w.heap.size + 1 + 1 := by omega
      have hbl2 : w.heap.size + 1 + 1 < wr.heap.size + 1 := by omega
      go_cut [6, 7] (fun s6 s7 wx => MeetSc wr x o2 i2 s6 s7 wx)
      case first =>
        clear J0 J1 J2 F0 F1 F2 HO
        go_region_law (go_simp; go_at_call 23; first
            | (refine (HS.out wr.drew HR.out.drew).mono ?_; rintro e w1 ⟨rfl, hb⟩; have hW : Below wr.heap.size wr w1 := (Below.refl wr.heap.size wr).drew.trans hb; clear hb)
            | (refine (HS.out (wr.alloc (.cells #[.int .u64 0, .int .u64 0, .int .u64 0, .int .u64 0, .int .u64 0, .int .u64 0, .int .u64 0] 49)).drew (HR.out.alloc _).drew).mono ?_; rintro e w1 ⟨rfl, hb⟩; have hW : Below wr.heap.size wr w1 := ((Below.refl wr.heap.size wr).alloc (Nat.le_refl _) _).drew.trans (hb.mono (by simp)); have hz : wr.heap.size + 1 ≤ w1.heap.size := (by have h9 := hb.size; simp at h9; omega); have hz3 : wr.heap.size < w1.heap.size := (by omega); have n1 : ¬ wr.heap.size = w1.heap.size := (by omega); have n2 : ¬ w1.heap.size = wr.heap.size := (by omega); have z0 : w1.cell? ⟨wr.heap.size, 0, none⟩ = some (.int .u64 0) := (by rw [hb.cell (by simp)]; simp); have z1 : w1.cell? ⟨wr.heap.size, 1, none⟩ = some (.int .u64 0) := (by rw [hb.cell (by simp)]; simp); have z2 : w1.cell? ⟨wr.heap.size, 2, none⟩ = some (.int .u64 0) := (by rw [hb.cell (by simp)]; simp); have z3 : w1.cell? ⟨wr.heap.size, 3, none⟩ = some (.int .u64 0) := (by rw [hb.cell (by simp)]; simp); have z4 : w1.cell? ⟨wr.heap.size, 4, none⟩ = some (.int .u64 0) := (by rw [hb.cell (by simp)]; simp); have z5 : w1.cell? ⟨wr.heap.size, 5, none⟩ = some (.int .u64 0) := (by rw [hb.cell (by simp)]; simp); have z6 : w1.cell? ⟨wr.heap.size, 6, none⟩ = some (.int .u64 0) := (by rw [hb.cell (by simp)]; simp); have zf : ∀ k, w1.frozen? ⟨wr.heap.size, k, none⟩ = false := (fun k => by rw [hb.frozen (by simp)]; simp); have HZ := Lib.hid (seven z0 z1 z2 z3 z4 z5 z6); clear hb)
            | (refine (HS.out (wr.alloc (.cells #[.bool false, .bool false] 51)).drew (HR.out.alloc _).drew).mono ?_; rintro e w1 ⟨rfl, hb⟩; have hW : Below wr.heap.size wr w1 := ((Below.refl wr.heap.size wr).alloc (Nat.le_refl _) _).drew.trans (hb.mono (by simp)); have hz : wr.heap.size + 1 ≤ w1.heap.size := (by have h9 := hb.size; simp at h9; omega); have hz3 : wr.heap.size < w1.heap.size := (by omega); have n1 : ¬ wr.heap.size = w1.heap.size := (by omega); have n2 : ¬ w1.heap.size = wr.heap.size := (by omega); have y0 : w1.cell? ⟨wr.heap.size, 0, none⟩ = some (.bool false) := (by rw [hb.cell (by simp)]; simp); have y1 : w1.cell? ⟨wr.heap.size, 1, none⟩ = some (.bool false) := (by rw [hb.cell (by simp)]; simp); have yf : ∀ k, w1.frozen? ⟨wr.heap.size, k, none⟩ = false := (fun k => by rw [hb.frozen (by simp)]; simp); have HY := Lib.hid (two y0 y1); clear hb)
            | (refine (HS.out ((wr.alloc (.cells #[.int .u64 0, .int .u64 0, .int .u64 0, .int .u64 0, .int .u64 0, .int .u64 0, .int .u64 0] 49)).alloc (.cells #[.bool false, .bool false] 51)).drew ((HR.out.alloc _).alloc _).drew).mono ?_; rintro e w1 ⟨rfl, hb⟩; have hW : Below wr.heap.size wr w1 := (((Below.refl wr.heap.size wr).alloc (Nat.le_refl _) _).alloc (by simp) _).drew.trans (hb.mono (by simp; omega)); have z0 : w1.cell? ⟨wr.heap.size, 0, none⟩ = some (.int .u64 0) := (by rw [hb.cell (by simp; omega)]; simp); have z1 : w1.cell? ⟨wr.heap.size, 1, none⟩ = some (.int .u64 0) := (by rw [hb.cell (by simp; omega)]; simp); have z2 : w1.cell? ⟨wr.heap.size, 2, none⟩ = some (.int .u64 0) := (by rw [hb.cell (by simp; omega)]; simp); have z3 : w1.cell? ⟨wr.heap.size, 3, none⟩ = some (.int .u64 0) := (by rw [hb.cell (by simp; omega)]; simp); have z4 : w1.cell? ⟨wr.heap.size, 4, none⟩ = some (.int .u64 0) := (by rw [hb.cell (by simp; omega)]; simp); have z5 : w1.cell? ⟨wr.heap.size, 5, none⟩ = some (.int .u64 0) := (by rw [hb.cell (by simp; omega)]; simp); have z6 : w1.cell? ⟨wr.heap.size, 6, none⟩ = some (.int .u64 0) := (by rw [hb.cell (by simp; omega)]; simp); have zf : ∀ k, w1.frozen? ⟨wr.heap.size, k, none⟩ = false := (fun k => by rw [hb.frozen (by simp; omega)]; simp); have HZ := Lib.hid (seven z0 z1 z2 z3 z4 z5 z6); have y0 : w1.cell? ⟨wr.heap.size + 1, 0, none⟩ = some (.bool false) := (by rw [hb.cell (by simp)]; simp); have y1 : w1.cell? ⟨wr.heap.size + 1, 1, none⟩ = some (.bool false) := (by rw [hb.cell (by simp)]; simp); have yf : ∀ k, w1.frozen? ⟨wr.heap.size + 1, k, none⟩ = false := (fun k => by rw [hb.frozen (by simp)]; simp); have HY := Lib.hid (two y0 y1); clear hb)
            | (refine (HS.out ((wr.alloc (.cells #[.bool false, .bool false] 51)).alloc (.cells #[.int .u64 0, .int .u64 0, .int .u64 0, .int .u64 0, .int .u64 0, .int .u64 0, .int .u64 0] 49)).drew ((HR.out.alloc _).alloc _).drew).mono ?_; rintro e w1 ⟨rfl, hb⟩; have hW : Below wr.heap.size wr w1 := (((Below.refl wr.heap.size wr).alloc (Nat.le_refl _) _).alloc (by simp) _).drew.trans (hb.mono (by simp; omega)); have y0 : w1.cell? ⟨wr.heap.size, 0, none⟩ = some (.bool false) := (by rw [hb.cell (by simp; omega)]; simp); have y1 : w1.cell? ⟨wr.heap.size, 1, none⟩ = some (.bool false) := (by rw [hb.cell (by simp; omega)]; simp); have yf : ∀ k, w1.frozen? ⟨wr.heap.size, k, none⟩ = false := (fun k => by rw [hb.frozen (by simp; omega)]; simp); have HY := Lib.hid (two y0 y1); have z0 : w1.cell? ⟨wr.heap.size + 1, 0, none⟩ = some (.int .u64 0) := (by rw [hb.cell (by simp)]; simp); have z1 : w1.cell? ⟨wr.heap.size + 1, 1, none⟩ = some (.int .u64 0) := (by rw [hb.cell (by simp)]; simp); have z2 : w1.cell? ⟨wr.heap.size + 1, 2, none⟩ = some (.int .u64 0) := (by rw [hb.cell (by simp)]; simp); have z3 : w1.cell? ⟨wr.heap.size + 1, 3, none⟩ = some (.int .u64 0) := (by rw [hb.cell (by simp)]; simp); have z4 : w1.cell? ⟨wr.heap.size + 1, 4, none⟩ = some (.int .u64 0) := (by rw [hb.cell (by simp)]; simp); have z5 : w1.cell? ⟨wr.heap.size + 1, 5, none⟩ = some (.int .u64 0) := (by rw [hb.cell (by simp)]; simp); have z6 : w1.cell? ⟨wr.heap.size + 1, 6, none⟩ = some (.int .u64 0) := (by rw [hb.cell (by simp)]; simp); have zf : ∀ k, w1.frozen? ⟨wr.heap.size + 1, k, none⟩ = false := (fun k => by rw [hb.frozen (by simp)]; simp); have HZ := Lib.hid (seven z0 z1 z2 z3 z4 z5 z6); clear hb))
        all_goals go_wp2_with fail
        all_goals go_meet
        all_goals first
          | with_reducible exact mt1 x o2 i2 _ _ hW
          | with_reducible exact mt2 x o2 i2 _ _ hW
          | with_reducible exact mt3 x o2 i2 _ hW (Nat.le_refl _) HZ
          | with_reducible exact mt5 x o2 i2 _ hW (Nat.le_refl _) HY
          | with_reducible exact mt4 x o2 i2 hW (Nat.le_refl _) (Nat.le_succ _) (Nat.ne_of_lt (Nat.lt_succ_self _)) HZ HY
          | with_reducible exact mt4 x o2 i2 hW (Nat.le_succ _) (Nat.le_refl _) (Nat.ne_of_gt (Nat.lt_succ_self _)) HZ HY
          | skip
      case rest =>
        obtain ⟨mb, cb, rfl, rfl, HMX, HCX, HB1, hmb, hcb⟩ := hcut
        clear c0 c1 nb1 nb2 hbl2 HS a1 a2 a3 a4
        have hsz := HSZ.out
        have hAC := Lib.hid (HO.out.old hcb)
        have HO1 := Lib.hid (HO.out.below HB1.out)
        have K0 := Ix.below J0 HB1.out
        have K1 := Ix.below J1 HB1.out
        have K2 := Cx.below J2 HB1.out
        have G0 := Fz.below F0 (by omega) HB1.out
        have G1 := Fz.below F1 (by omega) HB1.out
        have G2 := Fz.below F2 (by omega) HB1.out
        have B1 := Lib.hid (BR.out.trans (HB1.out.mono BR.out.size))
        have hz1 := HB1.out.size
        have hkb : k < 2600000000000 := by unfold nw at hk1; omega
        clear J0 J1 J2 F0 F1 F2 HO HB1 BR
        go_upto_region 7 with (fail)
        obtain ⟨m0, m1, m2, m3, m4, m5, m6⟩ := HMX.out
        obtain ⟨x0, x1⟩ := K1.out
        have ncb1 : ¬ cb = w.heap.size + 1 := by omega
        have ncb2 : ¬ w.heap.size + 1 = cb := by omega
        have ncb3 : ¬ cb = w.heap.size + 1 + 1 := by omega
        have ncb4 : ¬ w.heap.size + 1 + 1 = cb := by omega
        go_wp2_with (refine wp_row _ rfl _ _ 25 rfl (w.heap.size + 1 + 1 + 1) 49 _ 7 56 Tryd.underlying25 infoMs rfl (by decide) ao c2 k _ rfl _ rfl (by intro u hu; simp at hu; rcases hu with rfl | rfl | rfl | rfl | rfl | rfl | rfl <;> rfl) _ rfl HO1.out (by omega) (by unfold maxLen; omega) (by omega) ?_; intro a3 c3 w2 h1 h2 h3; have H1 := Lib.hid h1; have H2 := Lib.hid h2; have L0 := Ix.belowB K0 h2 (by omega); have L1 := Ix.belowB K1 h2 (by omega); have L2 := Cx.belowB K2 h2 (by omega); have P0 := Fz.belowB G0 h2 (by omega); have P1 := Fz.belowB G1 h2 (by omega); have P2 := Fz.belowB G2 h2 (by omega); have HC2 := Cx.oth HCX h3 hAC.out; have hz2 := h2.size; clear h1 h2 h3 x0 x1 m0 m1 m2 m3 m4 m5 m6; obtain ⟨x0, x1⟩ := L1.out; obtain ⟨c0, c1⟩ := L2.out; obtain ⟨y0, y1⟩ := HC2.out; have p1 := P1.out; have p2 := P2.out; unfold Fz at p1 p2)
        have S1 : ∀ g, a3 = some ⟨g, 0, none⟩ → (some ⟨w.heap.size + 1, 0, none⟩ : Option Addr) ≠ some ⟨g, 0, none⟩ := fun g e1 e2 => H1.out.ge (k := w.heap.size + 1) (by omega) (by rw [e1]; exact e2.symm)
        have S2 : ∀ g, a3 = some ⟨g, 0, none⟩ → (some ⟨w.heap.size + 1 + 1, 0, none⟩ : Option Addr) ≠ some ⟨g, 0, none⟩ := fun g e1 e2 => H1.out.ge (k := w.heap.size + 1 + 1) (by omega) (by rw [e1]; exact e2.symm)
        have ho := H1.out
        rw [show mcs (wds l k) ++ (#[Value.int .u64 (val x.q), .int .u64 (val x.n), .int .u64 (val x.o), .int .u64 (val x.c), .int .u64 (val x.k), .int .u64 (val x.m), .int .u64 (val x.s)] : Array Value).toList = mcs (wds l (k + 1)) by rw [wds_succ, ← HX.out, mcs_snoc]; rfl] at ho
        have q01 : w.heap.size ≠ w.heap.size + 1 := by omega
        have q02 : w.heap.size ≠ w.heap.size + 1 + 1 := by omega
        have q12 : w.heap.size + 1 ≠ w.heap.size + 1 + 1 := by omega
        have q21 : w.heap.size + 1 + 1 ≠ w.heap.size + 1 := by omega
        refine ⟨⟨k + 1, at' + 64, a3, c3, o2, i2, by omega, by go_num, Lib.hid (by rw [HK.out]; omega), HNX, Lib.hid (fun _ => trivial), Lib.hid (by omega), Ix.setO (Ix.setO (Ix.setO L0 _ _ q01) _ _ q02) _ _ q02, Ix.setO (Ix.setO (Ix.set0 L1 a3 (k + 1) c3) _ _ q12) _ _ q12, Cx.s2 o2 i2 (Lib.hid (two (Cx.setO L2 ⟨w.heap.size + 1, 0, none⟩ (.slice a3 (k + 1) c3) q21).out.1 (Cx.setO L2 ⟨w.heap.size + 1, 0, none⟩ (.slice a3 (k + 1) c3) q21).out.2)), Fz.set (Fz.set (Fz.set P0 _ _) _ _) _ _, Fz.set (Fz.set (Fz.set P1 _ _) _ _) _ _, Fz.set (Fz.set (Fz.set P2 _ _) _ _) _ _, Lib.hid (((ho.oth (Oth.setCell _ _ 0 _) S1).oth (Oth.setCell _ _ 0 _) S2).oth (Oth.setCell _ _ 1 _) S2), Lib.hid ((((B1.out.trans (H2.out.mono (by omega))).setCell (by show w.heap.size ≤ w.heap.size + 1; omega) _).setCell (by show w.heap.size ≤ w.heap.size + 1 + 1; omega) _).setCell (by show w.heap.size ≤ w.heap.size + 1 + 1; omega) _), Lib.hid (by simp; omega)⟩, ?_⟩
        simp [intOf]; omega
    · have HKE : Hid (k = nw l.length) := Lib.hid (by have := HK.out; have := HKN.out; unfold nw at *; omega)
      obtain ⟨x0, x1⟩ := J1.out
      obtain ⟨r0, r1⟩ := J0.out
      have f0 := F0.out
      unfold Fz at f0
      have n1 : ¬ w.heap.size + 1 = w.heap.size := by omega
      go_wp2
      refine bodyPost_ret (v := .agg #[.slice ao k c2, .int .i64 l.length]) (by simp [results, Tryd.results13, go_sem, r0, r1]) rfl ?_
      exact res_ix HKE.out BR.out (Below.refl _ _) (HO.out.mono (by omega)) _ _
end Go.Proofs.YtibgejndlllhfaaDoor
