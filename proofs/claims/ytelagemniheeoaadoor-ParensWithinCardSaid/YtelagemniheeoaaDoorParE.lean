/- parens: what a node tells; the closures of a search. -/
import Derived.Test.YtelagemniheeoaaDoorParD
import Derived.BigRegion
namespace Go.Proofs.YtelagemniheeoaaDoor
open Go.RowKit BM

def ResP (x : Int) (m : Nat) (w : World) (e : Ending) (w' : World) : Prop := e = .returned (.tuple #[.int .i64 x, .int .i64 m]) ∧ Below w.heap.size w w'
set_option maxHeartbeats 1000000 in
theorem least0_any (b : Nat) (v : VD) (i : Nat) (w : World) (h : VX w b v) (hv : v.ok) (hi : i ≤ v.n) : Calls Tryd.prog 51 #[.pointer (some ⟨b, 0, none⟩), .agg #[.int .i64 0, .int .i64 i]] w (ResP (ex v.f i) 1 w) := by
  have hn := hv.1.2.1
  have hE := fun W (hb : Below w.heap.size w W) => Excess_any b v i W (h.below hb) hv.1
  rw [show clp v.n i = i by unfold clp; omega] at hE
  have hx := ex_bd v.f i
  generalize ex v.f i = x at *
  have HE := Lib.hid hE
  have hi2 : i ≤ 1125899906842624 := by omega
  clear hE h hv hi hn
  go_enter Tryd.func51, Tryd.ntmps51
  have b1 := (Below.refl w.heap.size w).alloc (Nat.le_refl _) (.cells #[.int .i64 0, .int .i64 i] 61)
  have B1 := Lib.hid b1
  go_wp2_with fail
  refine (HE.out _ b1).mono ?_
  rintro e w' ⟨rfl, m, rfl⟩
  go_wp2
  go_ret2
  exact ⟨rfl, bdN b1 m⟩
set_option maxHeartbeats 1000000 in
theorem leastS_any (b : Nat) (v : VD) (d i : Nat) (w : World) (h : VX w b v) (hv : v.ok) (hd : d < v.lv.length) (hd2 : v.lv.length ≤ 100) (hi : i < cn v.n (d + 1)) : Calls Tryd.prog 51 #[.pointer (some ⟨b, 0, none⟩), .agg #[.int .i64 (d + 1 : Nat), .int .i64 i]] w (ResP (lst v (d + 1) i).1 (lst v (d + 1) i).2 w) := by
  have hn := hv.1.2.1
  obtain ⟨L, hL⟩ : ∃ L, v.lv[d]? = some L := ⟨_, List.getElem?_eq_getElem (by omega)⟩
  have c3 := h.1.2.2.2
  obtain ⟨lb, lo, hla, hlc⟩ := h.2.2.2.1 _ _ (lvv_get0 hL).1
  obtain ⟨lb2, lo2, hla2, hlc2⟩ := h.2.2.2.1 _ _ (lvv_get0 hL).2
  rw [hla] at hla2
  simp only [Option.some.injEq, Addr.mk.injEq, and_true] at hla2
  obtain ⟨rfl, rfl⟩ := hla2
  rw [hla] at c3
  obtain ⟨h1, h2, h3⟩ := hv.2.1 d L hL
  obtain ⟨hr1, hr2⟩ := h.2.2.2.2 L (List.mem_of_getElem? hL)
  have e1 : L.ls[i]? = some (L.ls[i]?.getD 0) := by rw [List.getElem?_eq_getElem (by omega)]; rfl
  have e2 : L.ms[i]? = some (L.ms[i]?.getD 0) := by rw [List.getElem?_eq_getElem (by omega)]; rfl
  have hag := agg_bd (h3 i _ _ e1 e2)
  obtain ⟨xb, xo, hxa, hxc⟩ := hr1 _ _ (iv8_get e1)
  obtain ⟨yb, yo, hya, hyc⟩ := hr2 _ _ (nv8_get e2)
  have q1 : (lst v (d + 1) i).1 = L.ls[i]?.getD 0 := by unfold lst; simp only [hL]
  have q2 : (lst v (d + 1) i).2 = L.ms[i]?.getD 0 := by unfold lst; simp only [hL]
  rw [q1, q2]
  rw [hxa] at hlc
  rw [hya] at hlc2
  rw [← Nat.add_assoc] at hlc2
  have hlen : i < L.ls.length := by omega
  have hlen2 : i < L.ms.length := by omega
  have hcn : cn v.n (d + 1) ≤ 1125899906842625 := by unfold cn; have := Nat.div_le_self v.n (2 ^ sh (d + 1)); omega
  have hi2 : i ≤ 1125899906842624 := by omega
  clear q1 q2 e1 e2 h1 h2 h3 hr1 hr2 hxa hya hi hcn hn hla
  generalize L.ls[i]?.getD 0 = x at *
  generalize L.ms[i]?.getD 0 = m at *
  generalize L.ls.length = nl at *
  generalize L.ms.length = nm at *
  generalize L.lc = lcap at *
  generalize L.mc = mcap at *
  generalize v.lv.length = kl at *
  generalize v.lc = vcap at *
  have hz : (((d : Nat) : Int) + 1 == 0) = false := by simp; omega
  have s1 : IntKind.i64.wrap ((d : Int) + 1 - 1) = d := by rw [Int.add_sub_cancel]; exact IntWalk.i64_in _ (by omega)
  have s0 : IntKind.i64.wrap (d : Int) = d := IntWalk.i64_in _ (by omega)
  rw [Int.natCast_add, show ((1 : Nat) : Int) = 1 from rfl]
  have HAG := Lib.hid hag
  clear hL h hv hag
  have k0 := cellP ((Below.refl w.heap.size w).alloc (Nat.le_refl _) (.cells #[.int .i64 ((d : Int) + 1), .int .i64 i] 61)) c3
  have k1 := cellP ((Below.refl w.heap.size w).alloc (Nat.le_refl _) (.cells #[.int .i64 ((d : Int) + 1), .int .i64 i] 61)) hlc
  have k2 := cellP ((Below.refl w.heap.size w).alloc (Nat.le_refl _) (.cells #[.int .i64 ((d : Int) + 1), .int .i64 i] 61)) hlc2
  have k3 := cellP ((Below.refl w.heap.size w).alloc (Nat.le_refl _) (.cells #[.int .i64 ((d : Int) + 1), .int .i64 i] 61)) hxc
  have k4 := cellP ((Below.refl w.heap.size w).alloc (Nat.le_refl _) (.cells #[.int .i64 ((d : Int) + 1), .int .i64 i] 61)) hyc
  have p0 : (w.alloc (.cells #[.int .i64 ((d : Int) + 1), .int .i64 i] 61)).cell? ⟨w.heap.size, 0, none⟩ = some (.int .i64 ((d : Int) + 1)) := by simp
  have p1 : (w.alloc (.cells #[.int .i64 ((d : Int) + 1), .int .i64 i] 61)).cell? ⟨w.heap.size, 1, none⟩ = some (.int .i64 i) := by simp
  have b1 := (Below.refl w.heap.size w).alloc (Nat.le_refl _) (.cells #[.int .i64 ((d : Int) + 1), .int .i64 i] 61)
  clear c3 hlc hlc2 hxc hyc
  go_enter Tryd.func51, Tryd.ntmps51
  go_wp2_with fail
  generalize w.alloc (.cells #[.int .i64 ((d : Int) + 1), .int .i64 i] 61) = w1 at *
  go_upto_region 3 with (fail)
  have ba := (Below.refl w1.heap.size w1).alloc (Nat.le_refl _) (.cells #[.slice none 0 0, .slice none 0 0] 55)
  have a0 := cellP ba k0
  have a1 := cellP ba k1
  have a2 := cellP ba k2
  have ap0 := cellP ba p0
  have ap1 := cellP ba p1
  go_region
  clear a0 a1 a2 ap0 ap1
  go_upto_region 4 with (fail)
  have bc := ((Below.refl w1.heap.size w1).alloc (Nat.le_refl _) (.cells #[.slice (some ⟨xb, xo, none⟩) nl lcap, .slice (some ⟨yb, yo, none⟩) nm mcap] 55)).drew
  have d0 : ((w1.alloc (.cells #[.slice (some ⟨xb, xo, none⟩) nl lcap, .slice (some ⟨yb, yo, none⟩) nm mcap] 55)).drew).cell? ⟨w1.heap.size, 0, none⟩ = some (.slice (some ⟨xb, xo, none⟩) nl lcap) := by simp
  have d1 : ((w1.alloc (.cells #[.slice (some ⟨xb, xo, none⟩) nl lcap, .slice (some ⟨yb, yo, none⟩) nm mcap] 55)).drew).cell? ⟨w1.heap.size, 1, none⟩ = some (.slice (some ⟨yb, yo, none⟩) nm mcap) := by simp
  replace p1 := cellP bc p1
  replace k3 := cellP bc k3
  replace k4 := cellP bc k4
  have b2 := b1.trans (bc.mono b1.size)
  clear k0 k1 k2 p0 ba
  generalize (w1.alloc (.cells #[.slice (some ⟨xb, xo, none⟩) nl lcap, .slice (some ⟨yb, yo, none⟩) nm mcap] 55)).drew = w2 at *
  clear bc b1
  generalize w1.heap.size = q1 at *
  go_quiet (fail)
  go_wp2
  go_ret2
  exact ⟨rfl, bdN b2 _⟩
theorem least_any (b : Nat) (v : VD) (d i : Nat) (w : World) (h : VX w b v) (hv : v.ok) (hd : d ≤ v.lv.length) (hd2 : v.lv.length ≤ 100) (hi : i < cn v.n d) : Calls Tryd.prog 51 #[.pointer (some ⟨b, 0, none⟩), .agg #[.int .i64 d, .int .i64 i]] w (ResP (lst v d i).1 (lst v d i).2 w) := by
  cases d with
  | zero => exact least0_any b v i w h hv (by simpa [cn, sh] using Nat.le_of_lt_succ hi)
  | succ d => exact leastS_any b v d i w h hv hd hd2 hi

/- THE CLOSURES: what a search keeps, and how they turn it -/
/-- cells beside block kb stay -/
structure Kp (kb : Nat) (w w' : World) : Prop where
  below : ∀ B, B ≤ kb → B ≤ w.heap.size → Below B w w'
  block : ∀ j, j ≠ kb → w'.heap[j]? = w.heap[j]?
theorem Kp.refl (kb : Nat) (w : World) : Kp kb w w := ⟨fun B _ _ => Below.refl B w, fun _ _ => rfl⟩
theorem Kp.set (kb : Nat) (w : World) (v : Value) : Kp kb w (w.setCell ⟨kb, 0, none⟩ v) := ⟨fun B h _ => (Below.refl B w).setCell h v, fun j hj => heap_setCell_other _ _ _ _ hj⟩
theorem Kp.cell {kb : Nat} {w w' : World} (h : Kp kb w w') {p : Addr} (hp : p.block ≠ kb) : w'.cell? p = w.cell? p := by
  have := h.block p.block hp
  simp [World.cell?, this]
theorem Kp.frozen {kb : Nat} {w w' : World} (h : Kp kb w w') {p : Addr} (hp : p.block ≠ kb) : w'.frozen? p = w.frozen? p := by
  have := h.block p.block hp
  simp [World.frozen?, this]
/-- the cells of a search: the excess looked for; how many of it are passed by -/
def SS (ch : Bool) (e : Int) (eb kb k : Nat) (w : World) : Prop := w.cell? ⟨eb, 0, none⟩ = some (.int .i64 e) ∧ (if ch then w.cell? ⟨kb, 0, none⟩ = some (.int .i64 k) ∧ w.frozen? ⟨kb, 0, none⟩ = false ∧ eb ≠ kb else k = 0)
theorem SS.below {ch : Bool} {e : Int} {eb kb k : Nat} {w w' : World} (h : SS ch e eb kb k w) (hb : Below w.heap.size w w') : SS ch e eb kb k w' := by
  refine ⟨cellP hb h.1, ?_⟩
  have h2 := h.2
  cases ch
  · simpa using h2
  · simp only [if_true] at h2 ⊢
    exact ⟨cellP hb h2.1, by rw [hb.frozen (lt_of_cell h2.1)]; exact h2.2.1, h2.2.2⟩
def ResSC (ch : Bool) (e : Int) (eb kb k : Nat) (l : Int) (m : Nat) (w : World) (r : Ending) (w' : World) : Prop := r = .returned (.bool (stop e k l m)) ∧ SS ch e eb kb (if stop e k l m then k else nxt e k l m) w' ∧ Kp kb w w'
theorem less_any (e : Int) (eb kb k : Nat) (l : Int) (m : Nat) (w : World) (h : SS false e eb kb k w) (hm : 1 ≤ m) :
    Calls Tryd.prog 49 #[.int .i64 l, .int .i64 m, .pointer (some ⟨eb, 0, none⟩)] w (ResSC false e eb kb k l m w) := by
  obtain ⟨h1, h2⟩ := h
  obtain rfl : k = 0 := by simpa using h2
  have hs : stop e 0 l m = decide (l ≤ e) := by
    rw [Bool.eq_iff_iff, stop_iff, decide_eq_true_iff]; omega
  have hx : nxt e 0 l m = 0 := by unfold nxt; split <;> omega
  unfold ResSC
  rw [hs, hx]
  have HC := Lib.hid h1
  have hc0 : w.cell? ⟨eb, 0, none⟩ = some (.int .i64 e) := h1
  clear hs hx h2 h1
  go_enter Tryd.func49, Tryd.ntmps49
  go_wp2
  all_goals go_ret
  all_goals exact ⟨ret_bool (by simp [*]), ⟨HC.out, by simp⟩, Kp.refl _ _⟩
set_option maxHeartbeats 1000000 in
theorem child_any (e : Int) (eb kb k : Nat) (l : Int) (m : Nat) (w : World) (h : SS true e eb kb k w) (hm : 1 ≤ m) (hk : k ≤ 9223372036854775807) (hm2 : m ≤ 9223372036854775807) :
    Calls Tryd.prog 46 #[.int .i64 l, .int .i64 m, .pointer (some ⟨eb, 0, none⟩), .pointer (some ⟨kb, 0, none⟩)] w (ResSC true e eb kb k l m w) := by
  obtain ⟨h1, h2⟩ := h
  simp only [if_true] at h2
  obtain ⟨h2, h3, h4⟩ := h2
  have h4' : ¬ kb = eb := fun e => h4 e.symm
  unfold ResSC
  by_cases hle : l < e
  · have hs : stop e k l m = true := (stop_iff _ _ _ _).2 (Or.inl hle)
    rw [hs, if_pos rfl]
    have HC := Lib.hid h1; have HD := Lib.hid h2; have HF := Lib.hid h3
    clear hs
    go_enter Tryd.func46, Tryd.ntmps46
    go_wp2
    go_ret
    exact ⟨rfl, ⟨HC.out, by simp only [if_true]; exact ⟨HD.out, HF.out, h4⟩⟩, Kp.refl _ _⟩
  · by_cases he : l = e
    · subst he
      by_cases hkm : k < m
      · have hs : stop l k l m = true := (stop_iff _ _ _ _).2 (Or.inr ⟨rfl, hkm⟩)
        rw [hs, if_pos rfl]
        have HC := Lib.hid h1; have HD := Lib.hid h2; have HF := Lib.hid h3
        clear hs
        go_enter Tryd.func46, Tryd.ntmps46
        go_wp2
        go_ret
        exact ⟨rfl, ⟨HC.out, by simp only [if_true]; exact ⟨HD.out, HF.out, h4⟩⟩, Kp.refl _ _⟩
      · have hs : stop l k l m = false := by rw [Bool.eq_false_iff]; intro hh; rcases (stop_iff _ _ _ _).1 hh with h | h <;> omega
        rw [hs, if_neg (by simp), show nxt l k l m = k - m by simp [nxt]]
        have hkm2 : ¬ (k : Int) < m := by omega
        have HE : Hid (((k - m : Nat) : Int) = (k : Int) - m) := Lib.hid (by omega)
        have HC := Lib.hid h1; have HD := Lib.hid h2; have HF := Lib.hid h3
        clear hs
        go_enter Tryd.func46, Tryd.ntmps46
        go_wp2
        go_ret
        exact ⟨rfl, ⟨by rw [(Kp.set kb w _).cell h4]; exact HC.out, by simp only [if_true]; exact ⟨by rw [HE.out]; simp [World.cell?_setCell_same, h2], by simp [h3], h4⟩⟩, Kp.set _ _ _⟩
    · have hs : stop e k l m = false := by rw [Bool.eq_false_iff]; intro hh; rcases (stop_iff _ _ _ _).1 hh with h | h <;> omega
      rw [hs, if_neg (by simp), show nxt e k l m = k by simp [nxt, he]]
      have he2 : (l == e) = false := by simpa using he
      have HC := Lib.hid h1; have HD := Lib.hid h2; have HF := Lib.hid h3
      clear hs
      go_enter Tryd.func46, Tryd.ntmps46
      go_wp2
      go_ret
      exact ⟨rfl, ⟨HC.out, by simp only [if_true]; exact ⟨HD.out, HF.out, h4⟩⟩, Kp.refl _ _⟩
end Go.Proofs.YtelagemniheeoaaDoor
