/- The document's Scan walked. -/
import Derived.Test.YtibgejndlllhfaaDoorBitD
import Derived.Deep.DeepCutAuto
import Derived.Deep.RegionHeld3
import Derived.Deep.RegionLaw
namespace Go.Proofs.YtibgejndlllhfaaDoor
open Go.RowKit BM

def byte (l : List Nat) (j : Nat) : Nat := l[j]?.getD 0
def stO (l : List Nat) (o : Bool) : Nat → Bool
  | 0 => o
  | j + 1 => nextOdd (byte l j) (stO l o j)
def stI (l : List Nat) (o i : Bool) : Nat → Bool
  | 0 => i
  | j + 1 => nextIn (byte l j) (stO l o j) (stI l o i j)
def wh (l : List Nat) (o i : Bool) (j : Nat) : Nat := what (byte l j) (stO l o j) (stI l o i j)
def isW (l : List Nat) (o i : Bool) (k : Int) (j : Nat) : Bool := (((wh l o i j : Nat) : Int) == k)
def inW (l : List Nat) (o i : Bool) (j : Nat) : Bool := stI l o i (j + 1)
/-- a box of seven masks -/
def Mx (w : World) (b : Nat) (m0 m1 m2 m3 m4 m5 m6 : BitVec 64) : Prop :=
  w.cell? ⟨b, 0, none⟩ = some (.int .u64 (val m0)) ∧ w.cell? ⟨b, 1, none⟩ = some (.int .u64 (val m1)) ∧ w.cell? ⟨b, 2, none⟩ = some (.int .u64 (val m2)) ∧ w.cell? ⟨b, 3, none⟩ = some (.int .u64 (val m3)) ∧ w.cell? ⟨b, 4, none⟩ = some (.int .u64 (val m4)) ∧ w.cell? ⟨b, 5, none⟩ = some (.int .u64 (val m5)) ∧ w.cell? ⟨b, 6, none⟩ = some (.int .u64 (val m6))
def Cx (w : World) (b : Nat) (x y : Bool) : Prop := w.cell? ⟨b, 0, none⟩ = some (.bool x) ∧ w.cell? ⟨b, 1, none⟩ = some (.bool y)
def Fz (w : World) (b : Nat) : Prop := ∀ k, w.frozen? ⟨b, k, none⟩ = false
def LW (l : List Nat) (o i : Bool) (w wr : World) (j : Nat) : Prop :=
  Below w.heap.size w wr ∧ Hid (Cx wr w.heap.size (stO l o j) (stI l o i j)) ∧ Hid (Fz wr w.heap.size) ∧
  Hid (Mx wr (w.heap.size + 1 + 1 + 1) (mk (isW l o i 113) j) (mk (inW l o i) j) (mk (isW l o i 111) j) (mk (isW l o i 99) j) (mk (isW l o i 58) j) (mk (isW l o i 44) j) (mk (isW l o i 32) j)) ∧ Hid (Fz wr (w.heap.size + 1 + 1 + 1)) ∧
  Hid (Mx wr (w.heap.size + 1) 0#64 0#64 0#64 0#64 0#64 0#64 0#64) ∧ Hid (Fz wr (w.heap.size + 1)) ∧
  Hid (Cx wr (w.heap.size + 1 + 1) false false) ∧ Hid (Fz wr (w.heap.size + 1 + 1))
def MeetS (wv : Nat) (iv ov : Bool) (W : World) (s8 s9 s10 : Value) (wx : World) : Prop :=
  ∃ g, s8 = .int .u8 (wv : Int) ∧ s9 = .bool iv ∧ s10 = .pointer (some ⟨g, 0, none⟩) ∧ W.heap.size ≤ g ∧ Hid (Cx wx g ov iv) ∧ Below W.heap.size W wx
def vm (l : List Nat) (o i : Bool) : Value := masksV (mk (isW l o i 113) l.length) (mk (inW l o i) l.length) (mk (isW l o i 111) l.length) (mk (isW l o i 99) l.length) (mk (isW l o i 58) l.length) (mk (isW l o i 44) l.length) (mk (isW l o i 32) l.length)
/-- what the document's Scan answers -/
def ResR (l : List Nat) (o i : Bool) (w : World) (e : Ending) (w' : World) : Prop :=
  e = .returned (.tuple #[vm l o i, .agg #[.bool (stO l o l.length), .bool (stI l o i l.length)]]) ∧ Below w.heap.size w w'

theorem cellW {W w' : World} (h : Below W.heap.size W w') {p : Addr} {v : Value} (hc : W.cell? p = some v) : w'.cell? p = some v := by rw [h.cell (lt_of_cell hc)]; exact hc
theorem Cx.new (W : World) (x y : Bool) (t : TypeId) : Hid (Cx (W.alloc (.cells #[.bool x, .bool y] t)) W.heap.size x y) := Lib.hid ⟨by simp, by simp⟩
theorem Cx.set {W : World} {b : Nat} {x y : Bool} (h0 : W.cell? ⟨b, 0, none⟩ = some (.bool x)) (h1 : W.cell? ⟨b, 1, none⟩ = some (.bool y)) (u v : Bool) : Hid (Cx ((W.setCell ⟨b, 0, none⟩ (.bool u)).setCell ⟨b, 1, none⟩ (.bool v)) b u v) :=
  Lib.hid ⟨by simp [go_sem, h0], by simp [go_sem, h1]⟩
theorem Cx.below {W W' : World} {b : Nat} {x y : Bool} (h : Hid (Cx W b x y)) (hb : Below W.heap.size W W') : Hid (Cx W' b x y) := Lib.hid ⟨cellW hb h.out.1, cellW hb h.out.2⟩
theorem Mx.below {W W' : World} {b : Nat} {m0 m1 m2 m3 m4 m5 m6 : BitVec 64} (h : Hid (Mx W b m0 m1 m2 m3 m4 m5 m6)) (hb : Below W.heap.size W W') : Hid (Mx W' b m0 m1 m2 m3 m4 m5 m6) := by
  obtain ⟨h0, h1, h2, h3, h4, h5, h6⟩ := h.out
  exact Lib.hid ⟨cellW hb h0, cellW hb h1, cellW hb h2, cellW hb h3, cellW hb h4, cellW hb h5, cellW hb h6⟩
theorem Fz.below {W W' : World} {b : Nat} (h : Hid (Fz W b)) (hlt : b < W.heap.size) (hb : Below W.heap.size W W') : Hid (Fz W' b) := Lib.hid fun k => (hb.frozen (p := ⟨b, k, none⟩) hlt).trans (h.out k)
theorem Cx.lt {W : World} {b : Nat} {x y : Bool} (h : Hid (Cx W b x y)) : b < W.heap.size := lt_of_cell h.out.1
theorem Mx.lt {W : World} {b : Nat} {m0 m1 m2 m3 m4 m5 m6 : BitVec 64} (h : Hid (Mx W b m0 m1 m2 m3 m4 m5 m6)) : b < W.heap.size := lt_of_cell h.out.1
theorem LW_start (l : List Nat) (o i : Bool) (w : World) (t1 t2 : TypeId) :
    LW l o i w ((((w.alloc (.cells #[.bool o, .bool i] t1)).alloc (.cells #[.int .u64 0, .int .u64 0, .int .u64 0, .int .u64 0, .int .u64 0, .int .u64 0, .int .u64 0] t2)).alloc (.cells #[.bool false, .bool false] t1)).alloc (.cells #[.int .u64 0, .int .u64 0, .int .u64 0, .int .u64 0, .int .u64 0, .int .u64 0, .int .u64 0] t2)) 0 := by
  have z : (Value.int .u64 0) = .int .u64 (val 0#64) := rfl
  refine ⟨((((Below.refl _ _).alloc (Nat.le_refl _) _).alloc (by simp) _).alloc (by simp; omega) _).alloc (by simp; omega) _, Lib.hid ⟨?_, ?_⟩, Lib.hid (fun k => ?_), Lib.hid ⟨?_, ?_, ?_, ?_, ?_, ?_, ?_⟩, Lib.hid (fun k => ?_), Lib.hid ⟨?_, ?_, ?_, ?_, ?_, ?_, ?_⟩, Lib.hid (fun k => ?_), Lib.hid ⟨?_, ?_⟩, Lib.hid (fun k => ?_)⟩
  all_goals first | (simp [go_sem, stO, stI, z, mk]; done) | skip
theorem LW_next {l : List Nat} {o i : Bool} {w wc : World} {j x wv : Nat} {iv ov : Bool} (hx : byte l j = x) (hwv : what x (stO l o j) (stI l o i j) = wv) (hiv : nextIn x (stO l o j) (stI l o i j) = iv) (hov : nextOdd x (stO l o j) = ov)
    (hb : Below w.heap.size w wc) (HC : Hid (Cx wc w.heap.size (stO l o j) (stI l o i j))) (FC : Hid (Fz wc w.heap.size))
    (HM : Hid (Mx wc (w.heap.size + 1 + 1 + 1) (mk (isW l o i 113) j) (mk (inW l o i) j) (mk (isW l o i 111) j) (mk (isW l o i 99) j) (mk (isW l o i 58) j) (mk (isW l o i 44) j) (mk (isW l o i 32) j))) (FM : Hid (Fz wc (w.heap.size + 1 + 1 + 1)))
    (HA : Hid (Mx wc (w.heap.size + 1) 0#64 0#64 0#64 0#64 0#64 0#64 0#64)) (FA : Hid (Fz wc (w.heap.size + 1)))
    (HD : Hid (Cx wc (w.heap.size + 1 + 1) false false)) (FD : Hid (Fz wc (w.heap.size + 1 + 1))) :
    LW l o i w (((((((((wc.setCell ⟨w.heap.size + 1 + 1 + 1, 0, none⟩ (.int .u64 (val (put (mk (isW l o i 113) j) j ((wv : Int) == 113))))).setCell ⟨w.heap.size + 1 + 1 + 1, 1, none⟩ (.int .u64 (val (put (mk (inW l o i) j) j iv)))).setCell ⟨w.heap.size + 1 + 1 + 1, 2, none⟩ (.int .u64 (val (put (mk (isW l o i 111) j) j ((wv : Int) == 111))))).setCell ⟨w.heap.size + 1 + 1 + 1, 3, none⟩ (.int .u64 (val (put (mk (isW l o i 99) j) j ((wv : Int) == 99))))).setCell ⟨w.heap.size + 1 + 1 + 1, 4, none⟩ (.int .u64 (val (put (mk (isW l o i 58) j) j ((wv : Int) == 58))))).setCell ⟨w.heap.size + 1 + 1 + 1, 5, none⟩ (.int .u64 (val (put (mk (isW l o i 44) j) j ((wv : Int) == 44))))).setCell ⟨w.heap.size + 1 + 1 + 1, 6, none⟩ (.int .u64 (val (put (mk (isW l o i 32) j) j ((wv : Int) == 32))))).setCell ⟨w.heap.size, 0, none⟩ (.bool ov)).setCell ⟨w.heap.size, 1, none⟩ (.bool iv)) (j + 1) := by
  subst hx hwv hiv hov
  have e : ∀ k : Int, put (mk (isW l o i k) j) j (((what (byte l j) (stO l o j) (stI l o i j) : Nat) : Int) == k) = mk (isW l o i k) (j + 1) := fun k => rfl
  have e2 : put (mk (inW l o i) j) j (nextIn (byte l j) (stO l o j) (stI l o i j)) = mk (inW l o i) (j + 1) := rfl
  rw [e, e, e, e, e, e, e2]
  rw [show nextOdd (byte l j) (stO l o j) = stO l o (j + 1) from rfl, show nextIn (byte l j) (stO l o j) (stI l o i j) = stI l o i (j + 1) from rfl]
  obtain ⟨m0, m1, m2, m3, m4, m5, m6⟩ := HM.out
  obtain ⟨a0, a1, a2, a3, a4, a5, a6⟩ := HA.out
  obtain ⟨c0, c1⟩ := HC.out
  obtain ⟨d0, d1⟩ := HD.out
  have hB : w.heap.size ≤ w.heap.size + 1 + 1 + 1 := by omega
  refine ⟨((((((((hb.setCell hB _).setCell hB _).setCell hB _).setCell hB _).setCell hB _).setCell hB _).setCell hB _).setCell (Nat.le_refl _) _).setCell (Nat.le_refl _) _, Lib.hid ⟨?_, ?_⟩, Lib.hid (fun k => ?_), Lib.hid ⟨?_, ?_, ?_, ?_, ?_, ?_, ?_⟩, Lib.hid (fun k => ?_), Lib.hid ⟨?_, ?_, ?_, ?_, ?_, ?_, ?_⟩, Lib.hid (fun k => ?_), Lib.hid ⟨?_, ?_⟩, Lib.hid (fun k => ?_)⟩
  case refine_3 => simp [go_sem, FC.out k]
  case refine_11 => simp [go_sem, FM.out k]
  case refine_19 => simp [go_sem, FA.out k]
  case refine_22 => simp [go_sem, FD.out k]
  all_goals simp [go_sem, m0, m1, m2, m3, m4, m5, m6, a0, a1, a2, a3, a4, a5, a6, c0, c1, d0, d1]
theorem resR_of {l : List Nat} {o i : Bool} {w W : World} {j : Nat} {u1 u2 u3 u4 u5 u6 u7 u8 u9 : Value} (hj : j = l.length) (h : Below w.heap.size w W) :
    ResR l o i w (.returned (.tuple #[masksV (mk (isW l o i 113) j) (mk (inW l o i) j) (mk (isW l o i 111) j) (mk (isW l o i 99) j) (mk (isW l o i 58) j) (mk (isW l o i 44) j) (mk (isW l o i 32) j), .agg #[.bool (stO l o j), .bool (stI l o i j)]]))
      (((((((((W.setCell ⟨w.heap.size + 1, 0, none⟩ u1).setCell ⟨w.heap.size + 1, 1, none⟩ u2).setCell ⟨w.heap.size + 1, 2, none⟩ u3).setCell ⟨w.heap.size + 1, 3, none⟩ u4).setCell ⟨w.heap.size + 1, 4, none⟩ u5).setCell ⟨w.heap.size + 1, 5, none⟩ u6).setCell ⟨w.heap.size + 1, 6, none⟩ u7).setCell ⟨w.heap.size + 1 + 1, 0, none⟩ u8).setCell ⟨w.heap.size + 1 + 1, 1, none⟩ u9).drew := by
  subst hj
  have hB : w.heap.size ≤ w.heap.size + 1 := by omega
  have hB' : w.heap.size ≤ w.heap.size + 1 + 1 := by omega
  exact ⟨rfl, ((((((((((h.setCell hB _).setCell hB _).setCell hB _).setCell hB _).setCell hB _).setCell hB _).setCell hB _).setCell hB' _).setCell hB' _)).drew⟩
set_option maxRecDepth 100000 in
set_option maxHeartbeats 4000000 in
theorem ScanR_any (a : Option Addr) (cap : Nat) (l : List Nat) (o i : Bool) (w : World) (hl : l.length ≤ 9223372036854775807) (_hcap : l.length ≤ cap) (hrd : Rd w .u8 a l) :
    Calls Tryd.prog 23 #[.slice a l.length cap, .agg #[.bool o, .bool i]] w (ResR (l.take 64) o i w) := by
  have HR := Lib.hid hrd
  clear hrd
  go_enter Tryd.func23, Tryd.ntmps23
  go_wp2
  go_loopw [7] (fun s7 wr => ∃ j : Nat, j ≤ min l.length 64 ∧ s7 = .int .i64 j ∧ LW (l.take 64) o i w wr j) (fun s7 _ => 64 - (intOf s7).toNat)
  case atStart =>
    exact ⟨0, by omega, rfl, LW_start _ _ _ _ _ _⟩
  case round =>
    obtain ⟨j, hj, rfl, hb, HC, FC, HM, FM, HA, FA, HD, FD⟩ := hrel
    by_cases hlt : j < min l.length 64
    · have hj1 : j < l.length := by omega
      have hj2 : j < 64 := by omega
      obtain ⟨b, off, x, ha, HX, hc⟩ := (HR.out.below hb).byte j (by omega)
      subst ha
      clear hlt
      have HB := Lib.hid hb
      clear hb
      obtain ⟨c0, c1⟩ := HC.out
      go_wp2_with fail
      go_cut [8, 9, 10] (fun s8 s9 s10 wx => MeetS (what x (stO (l.take 64) o j) (stI (l.take 64) o i j)) (nextIn x (stO (l.take 64) o j) (stI (l.take 64) o i j)) (nextOdd x (stO (l.take 64) o j)) wr s8 s9 s10 wx)
      case first =>
        obtain ⟨c0, c1⟩ := HC.out
        have hst := Lib.hid (Step_any x (stO (l.take 64) o j) (stI (l.take 64) o i j))
        have bwz : Below wr.heap.size wr (wr.alloc (.cells #[.bool false, .bool false] 51)) := (Below.refl _ _).alloc (Nat.le_refl _) _
        have kb0 := cellW bwz c0
        have kb1 := cellW bwz c1
        have kb2 := cellW bwz hc
        clear bwz
        go_region_law
          (go_simp; go_at_call 30; refine (hst.out _).mono ?_; rintro e w2 ⟨rfl, hb1⟩; first | (have hW : Below wr.heap.size wr w2 := ((Below.refl wr.heap.size wr).drew.trans hb1); clear hb1) | (have hW : Below wr.heap.size wr w2 := (((Below.refl _ _).alloc (Nat.le_refl _) _).drew.trans (hb1.mono (by simp))); have z0 : w2.cell? ⟨wr.heap.size, 0, none⟩ = some (.bool false) := (by rw [hb1.cell (by simp)]; simp); have z1 : w2.cell? ⟨wr.heap.size, 1, none⟩ = some (.bool false) := (by rw [hb1.cell (by simp)]; simp); have zf : ∀ k, w2.frozen? ⟨wr.heap.size, k, none⟩ = false := (fun k => by rw [hb1.frozen (by simp)]; simp); clear hb1))
        all_goals first
          | (go_wp2_with fail; go_meet; exact ⟨w2.heap.size, rfl, rfl, rfl, hW.size, Cx.new w2 _ _ _, hW.alloc hW.size _⟩)
          | (go_wp2_with fail; go_meet; exact ⟨wr.heap.size, rfl, rfl, rfl, Nat.le_refl _, Cx.set z0 z1 _ _, (hW.setCell (Nat.le_refl _) _).setCell (Nat.le_refl _) _⟩)
      case rest =>
        obtain ⟨g, rfl, rfl, rfl, hg, HN, hbx⟩ := hcut
        have HB' := Lib.hid (HB.out.trans (hbx.mono HB.out.size))
        have HC' := Cx.below HC hbx
        have FC' := Fz.below FC (Cx.lt HC) hbx
        have HM' := Mx.below HM hbx
        have FM' := Fz.below FM (Mx.lt HM) hbx
        have HA' := Mx.below HA hbx
        have FA' := Fz.below FA (Mx.lt HA) hbx
        have HD' := Cx.below HD hbx
        have FD' := Fz.below FD (Cx.lt HD) hbx
        have n1 : ¬ g = w.heap.size := by have := Cx.lt HC; omega
        have n2 : ¬ g = w.heap.size + 1 + 1 + 1 := by have := Mx.lt HM; omega
        have n3 : ¬ w.heap.size + 1 + 1 + 1 = g := by have := Mx.lt HM; omega
        have n4 : ¬ w.heap.size = g := by have := Cx.lt HC; omega
        clear hbx hg HC FC HM FM HA FA HD FD HB
        obtain ⟨m0, m1, m2, m3, m4, m5, m6⟩ := HM'.out
        obtain ⟨c0, c1⟩ := HC'.out
        obtain ⟨g0, g1⟩ := HN.out
        have fm := FM'.out
        have fc := FC'.out
        unfold Fz at fm fc
        obtain ⟨wv, hwv⟩ : ∃ v, what x (stO (l.take 64) o j) (stI (l.take 64) o i j) = v := ⟨_, rfl⟩
        obtain ⟨iv, hiv⟩ : ∃ v, nextIn x (stO (l.take 64) o j) (stI (l.take 64) o i j) = v := ⟨_, rfl⟩
        obtain ⟨ov, hov⟩ : ∃ v, nextOdd x (stO (l.take 64) o j) = v := ⟨_, rfl⟩
        have HWV := Lib.hid hwv; have HIV := Lib.hid hiv; have HOV := Lib.hid hov
        rw [hov] at g0
        rw [hiv] at g1
        rw [hwv, hiv]
        clear hwv hiv hov
        go_wp2_with ((with_reducible refine (With_any _ j _ hj2 _).mono ?_); rintro e w' ⟨rfl, rfl⟩)
        go_roundw
        case rel => exact ⟨j + 1, by omega, by go_num, LW_next (by rw [byte, getD_take hj2]; exact HX.out) HWV.out HIV.out HOV.out HB'.out HC' FC' HM' FM' HA' FA' HD' FD'⟩
        case measure => simp [intOf]; omega
    · have hj1 : j = min l.length 64 := by omega
      have HJ : Hid (j = (l.take 64).length) := Lib.hid (by simp; omega)
      have hj2 : ¬ (j < l.length ∧ j < 64) := by omega
      clear hj1 hlt
      have HB := Lib.hid hb
      clear hb
      obtain ⟨m0, m1, m2, m3, m4, m5, m6⟩ := HM.out
      obtain ⟨a0, a1, a2, a3, a4, a5, a6⟩ := HA.out
      obtain ⟨c0, c1⟩ := HC.out
      obtain ⟨d0, d1⟩ := HD.out
      have fa := FA.out
      have fd := FD.out
      unfold Fz at fa fd
      have hj3 : j < 64 → ¬ j < l.length := by omega
      by_cases h64 : j < 64
      · have h3 := hj3 h64
        clear hj3
        go_wp2
        go_region
        go_wp2
        refine bodyPost_ret (v := .tuple #[masksV (mk (isW (l.take 64) o i 113) j) (mk (inW (l.take 64) o i) j) (mk (isW (l.take 64) o i 111) j) (mk (isW (l.take 64) o i 99) j) (mk (isW (l.take 64) o i 58) j) (mk (isW (l.take 64) o i 44) j) (mk (isW (l.take 64) o i 32) j), .agg #[.bool (stO (l.take 64) o j), .bool (stI (l.take 64) o i j)]]) (by simp [results, Tryd.results23, go_sem, masksV, a0, a1, a2, a3, a4, a5, a6, d0, d1]) rfl ?_
        exact resR_of HJ.out HB.out
      · clear hj3
        go_wp2
        go_region
        go_wp2
        refine bodyPost_ret (v := .tuple #[masksV (mk (isW (l.take 64) o i 113) j) (mk (inW (l.take 64) o i) j) (mk (isW (l.take 64) o i 111) j) (mk (isW (l.take 64) o i 99) j) (mk (isW (l.take 64) o i 58) j) (mk (isW (l.take 64) o i 44) j) (mk (isW (l.take 64) o i 32) j), .agg #[.bool (stO (l.take 64) o j), .bool (stI (l.take 64) o i j)]]) (by simp [results, Tryd.results23, go_sem, masksV, a0, a1, a2, a3, a4, a5, a6, d0, d1]) rfl ?_
        exact resR_of HJ.out HB.out
end Go.Proofs.YtibgejndlllhfaaDoor
