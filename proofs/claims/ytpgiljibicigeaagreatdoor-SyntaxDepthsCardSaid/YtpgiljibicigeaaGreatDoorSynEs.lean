/- syntax: small parts: self, none, plain, index, held; parts of so many kids. -/
import Derived.Test.YtpgiljibicigeaaGreatDoorSynCs
import Derived.Deep.DeepAppendWide
set_option linter.unusedVariables false
set_option linter.unusedSimpArgs false
namespace Go.Proofs.YtpgiljibicigeaaGreatDoor
open Go.RowKit SX

abbrev ptr (b : Nat) : Value := .pointer (some ⟨b, 0, none⟩)
/-- a part told -/
def ResPt (w : World) (g : Nat) (x : Nd) (e : Ending) (w' : World) : Prop := ∃ b, e = .returned (ptr b) ∧ Below w.heap.size w w' ∧ PR w' g x b
def VN (g : Nat) : Nd → Value → World → Prop := fun x u w' => ∃ b, u = ptr b ∧ PR w' g x b
theorem PR.alloc {w : World} {g b : Nat} {x : Nd} (h : PR w g x b) (o : Obj) : PR (w.alloc o) g x b := h.bel ((Below.refl _ _).alloc (Nat.le_refl _) o)
theorem prs_mk {w : World} {A : Nat → Prop} {ab : Nat} (hg : A ab) : ∀ (ks : List Nd) (j : Nat), (∀ (i : Nat) (x : Nd), ks[i]? = some x → ∃ b, w.cell? ⟨ab, j + i, none⟩ = some (ptr b) ∧ PRA w A x b) → PRs w A ks (some ⟨ab, 0, none⟩) j
  | [], _, _ => by unfold PRs; trivial
  | x :: ks, j, h => by
    unfold PRs
    obtain ⟨b, h1, h2⟩ := h 0 x rfl
    refine ⟨⟨ab, b, rfl, hg, h1, h2⟩, prs_mk hg ks (j + 1) fun i y hy => ?_⟩
    have := h (i + 1) y (by simpa using hy)
    rwa [show j + (i + 1) = j + 1 + i by omega] at this
theorem prs_arr {w : World} {g : Nat} {T : TypeId} (hg : g < w.heap.size) {ks : List Nd} {bs : List Nat} (h : ∀ (i : Nat) (x : Nd), ks[i]? = some x → ∃ b, bs[i]? = some b ∧ PR w g x b) : PRs (w.alloc (.cells (bs.map ptr).toArray T)) (fun k => g < k) ks (some ⟨w.heap.size, 0, none⟩) 0 := by
  refine prs_mk hg ks 0 fun i x hx => ?_
  obtain ⟨b, hb, hp⟩ := h i x hx
  refine ⟨b, ?_, hp.alloc _⟩
  rw [cell_new rfl, Nat.zero_add, List.getElem?_toArray, List.getElem?_map, hb]; rfl
theorem syNewA {w : World} {g : Nat} {T : TypeId} (k : Nat) (s : ByteArray) (ks : List Nd) (bs : List Nat) (hg : g < w.heap.size) (h : ∀ (i : Nat) (x : Nd), ks[i]? = some x → ∃ b, bs[i]? = some b ∧ PR w g x b) (hd : dps ks ≤ 10000000) (hn : ks.length ≤ 1000000) :
    Calls Tryz.prog 41 #[.int .i64 (k : Int), .string s, .slice (some ⟨w.heap.size, 0, none⟩) ks.length ks.length] (w.alloc (.cells (bs.map ptr).toArray T)) (ResPt w g (.mk k s ks)) := by
  refine (syNewPart k s ks (some ⟨w.heap.size, 0, none⟩) ks.length (fun k => g < k) _ (prs_arr hg h) (by simp; omega) hd hn).mono ?_
  rintro e w' ⟨rfl, hb, hp⟩
  have h1 : Below w.heap.size w (w.alloc (.cells (bs.map ptr).toArray T)) := (Below.refl _ _).alloc (Nat.le_refl _) _
  exact ⟨_, rfl, h1.trans (hb.mono h1.size), hp⟩
theorem syNew0 {w : World} {g : Nat} (hg : g < w.heap.size) (k : Nat) (s : ByteArray) : Calls Tryz.prog 41 #[.int .i64 (k : Int), .string s, .slice none 0 0] w (ResPt w g (.mk k s [])) := by
  refine (syNewPart k s [] none 0 (fun k => g < k) w (by unfold PRs; trivial) hg (by simp [dps]) (by simp)).mono ?_
  rintro e w' ⟨rfl, hb, hp⟩
  exact ⟨_, rfl, hb, hp⟩
theorem syNew1 {w : World} {g : Nat} {T : TypeId} {x : Nd} {b : Nat} (hg : g < w.heap.size) (hx : PR w g x b) (dx : dpt x ≤ 1000000) (k : Nat) (s : ByteArray) : Calls Tryz.prog 41 #[.int .i64 (k : Int), .string s, .slice (some ⟨w.heap.size, 0, none⟩) 1 1] (w.alloc (.cells #[ptr b] T)) (ResPt w g (.mk k s [x])) :=
  syNewA k s [x] [b] hg (fun i y hy => by
    match i, hy with
    | 0, hy => obtain rfl : x = y := by simpa using hy
               exact ⟨b, rfl, hx⟩
    | i + 1, hy => simp at hy) (by simp only [dps]; omega) (by simp)
theorem syNew2 {w : World} {g : Nat} {T : TypeId} {x y : Nd} {b c : Nat} (hg : g < w.heap.size) (hx : PR w g x b) (hy : PR w g y c) (dx : dpt x ≤ 1000000) (dy : dpt y ≤ 1000000) (k : Nat) (s : ByteArray) : Calls Tryz.prog 41 #[.int .i64 (k : Int), .string s, .slice (some ⟨w.heap.size, 0, none⟩) 2 2] (w.alloc (.cells #[ptr b, ptr c] T)) (ResPt w g (.mk k s [x, y])) :=
  syNewA k s [x, y] [b, c] hg (fun i z hz => by
    match i, hz with
    | 0, hz => obtain rfl : x = z := by simpa using hz
               exact ⟨b, rfl, hx⟩
    | 1, hz => obtain rfl : y = z := by simpa using hz
               exact ⟨c, rfl, hy⟩
    | i + 2, hz => simp at hz) (by simp only [dps]; omega) (by simp)
theorem syNew3 {w : World} {g : Nat} {T : TypeId} {x y z : Nd} {b c d : Nat} (hg : g < w.heap.size) (hx : PR w g x b) (hy : PR w g y c) (hz : PR w g z d) (dx : dpt x ≤ 1000000) (dy : dpt y ≤ 1000000) (dz : dpt z ≤ 1000000) (k : Nat) (s : ByteArray) : Calls Tryz.prog 41 #[.int .i64 (k : Int), .string s, .slice (some ⟨w.heap.size, 0, none⟩) 3 3] (w.alloc (.cells #[ptr b, ptr c, ptr d] T)) (ResPt w g (.mk k s [x, y, z])) :=
  syNewA k s [x, y, z] [b, c, d] hg (fun i u hu => by
    match i, hu with
    | 0, hu => obtain rfl : x = u := by simpa using hu
               exact ⟨b, rfl, hx⟩
    | 1, hu => obtain rfl : y = u := by simpa using hu
               exact ⟨c, rfl, hy⟩
    | 2, hu => obtain rfl : z = u := by simpa using hu
               exact ⟨d, rfl, hz⟩
    | i + 3, hu => simp at hu) (by simp only [dps]; omega) (by simp)
theorem syNew4 {w : World} {g : Nat} {T : TypeId} {x y z t : Nd} {b c d e : Nat} (hg : g < w.heap.size) (hx : PR w g x b) (hy : PR w g y c) (hz : PR w g z d) (ht : PR w g t e) (dx : dpt x ≤ 1000000) (dy : dpt y ≤ 1000000) (dz : dpt z ≤ 1000000) (dt : dpt t ≤ 1000000) (k : Nat) (s : ByteArray) : Calls Tryz.prog 41 #[.int .i64 (k : Int), .string s, .slice (some ⟨w.heap.size, 0, none⟩) 4 4] (w.alloc (.cells #[ptr b, ptr c, ptr d, ptr e] T)) (ResPt w g (.mk k s [x, y, z, t])) :=
  syNewA k s [x, y, z, t] [b, c, d, e] hg (fun i u hu => by
    match i, hu with
    | 0, hu => obtain rfl : x = u := by simpa using hu
               exact ⟨b, rfl, hx⟩
    | 1, hu => obtain rfl : y = u := by simpa using hu
               exact ⟨c, rfl, hy⟩
    | 2, hu => obtain rfl : z = u := by simpa using hu
               exact ⟨d, rfl, hz⟩
    | 3, hu => obtain rfl : t = u := by simpa using hu
               exact ⟨e, rfl, ht⟩
    | i + 4, hu => simp at hu) (by simp only [dps]; omega) (by simp)
theorem syNew5 {w : World} {g : Nat} {T : TypeId} {x y z t r : Nd} {b c d e f : Nat} (hg : g < w.heap.size) (hx : PR w g x b) (hy : PR w g y c) (hz : PR w g z d) (ht : PR w g t e) (hr : PR w g r f) (dx : dpt x ≤ 1000000) (dy : dpt y ≤ 1000000) (dz : dpt z ≤ 1000000) (dt : dpt t ≤ 1000000) (dr : dpt r ≤ 1000000) (k : Nat) (s : ByteArray) : Calls Tryz.prog 41 #[.int .i64 (k : Int), .string s, .slice (some ⟨w.heap.size, 0, none⟩) 5 5] (w.alloc (.cells #[ptr b, ptr c, ptr d, ptr e, ptr f] T)) (ResPt w g (.mk k s [x, y, z, t, r])) :=
  syNewA k s [x, y, z, t, r] [b, c, d, e, f] hg (fun i u hu => by
    match i, hu with
    | 0, hu => obtain rfl : x = u := by simpa using hu
               exact ⟨b, rfl, hx⟩
    | 1, hu => obtain rfl : y = u := by simpa using hu
               exact ⟨c, rfl, hy⟩
    | 2, hu => obtain rfl : z = u := by simpa using hu
               exact ⟨d, rfl, hz⟩
    | 3, hu => obtain rfl : t = u := by simpa using hu
               exact ⟨e, rfl, ht⟩
    | 4, hu => obtain rfl : r = u := by simpa using hu
               exact ⟨f, rfl, hr⟩
    | i + 5, hu => simp at hu) (by simp only [dps]; omega) (by simp)
set_option maxRecDepth 100000 in
theorem sySelf {w : World} {g : Nat} (hg : g < w.heap.size) : Calls Tryz.prog 104 #[] w (ResPt w g slf) := by
  have HC := Lib.hid (syNew0 hg 1 SX.nil)
  clear hg
  go_enter Tryz.func104, Tryz.ntmps104
  go_wp2_with fail
  refine HC.out.mono ?_
  rintro e w1 ⟨b, rfl, hb, hp⟩
  have HR := Lib.hid (show ResPt w g slf (.returned (ptr b)) w1 from ⟨b, rfl, hb, hp⟩)
  clear hb hp HC
  go_wp2
  go_ret
  exact HR.out
set_option maxRecDepth 100000 in
theorem syNone {w : World} {g : Nat} (hg : g < w.heap.size) : Calls Tryz.prog 107 #[] w (ResPt w g non) := by
  have HC := Lib.hid (syNew0 hg 32 SX.nil)
  clear hg
  go_enter Tryz.func107, Tryz.ntmps107
  go_wp2_with fail
  refine HC.out.mono ?_
  rintro e w1 ⟨b, rfl, hb, hp⟩
  have HR := Lib.hid (show ResPt w g non (.returned (ptr b)) w1 from ⟨b, rfl, hb, hp⟩)
  clear hb hp HC
  go_wp2
  go_ret
  exact HR.out
set_option maxRecDepth 100000 in
theorem syPlain {w : World} {g : Nat} (hg : g < w.heap.size) (s : ByteArray) : Calls Tryz.prog 94 #[.string s] w (ResPt w g (pln s)) := by
  have HC := Lib.hid (syNew0 hg 5 s)
  have HG := Lib.hid hg
  clear hg
  go_enter Tryz.func94, Tryz.ntmps94
  go_wp2_with fail
  refine HC.out.mono ?_
  rintro e w1 ⟨b, rfl, hb, hp⟩
  have HD := Lib.hid (fun T => syNew1 (T := T) (Nat.lt_of_lt_of_le HG.out hb.size) hp (by simp [dpt, dps]) 4 SX.nil)
  have HB := Lib.hid hb
  clear hb hp HC
  go_wp2_with fail
  refine (HD.out _).mono ?_
  rintro e w2 ⟨c, rfl, hb, hp⟩
  have HR := Lib.hid (show ResPt w g (pln s) (.returned (ptr c)) w2 from ⟨c, rfl, HB.out.trans (hb.mono HB.out.size), hp⟩)
  clear hb hp HB HD
  go_wp2
  go_ret
  exact HR.out
set_option maxRecDepth 100000 in
theorem syIndex {w : World} {g b c : Nat} {x y : Nd} (hg : g < w.heap.size) (hx : PR w g x b) (hy : PR w g y c) (dx : dpt x ≤ 1000000) (dy : dpt y ≤ 1000000) : Calls Tryz.prog 93 #[ptr b, ptr c] w (ResPt w g (ixN x y)) := by
  have HD := Lib.hid (fun T => syNew2 (T := T) hg hx hy dx dy 10 SX.nil)
  clear hg hx hy dx dy
  go_enter Tryz.func93, Tryz.ntmps93
  go_wp2_with fail
  refine (HD.out _).mono ?_
  rintro e w2 ⟨d, rfl, hb, hp⟩
  have HR := Lib.hid (show ResPt w g (ixN x y) (.returned (ptr d)) w2 from ⟨d, rfl, hb, hp⟩)
  clear hb hp HD
  go_wp2
  go_ret
  exact HR.out
theorem l44 : (⟨#[44]⟩ : ByteArray).toList = [44] := by rw [ByteArray.toList_eq]
set_option maxRecDepth 100000 in
set_option maxHeartbeats 2000000 in
theorem syHeld {w : World} {g b c : Nat} {x y : Nd} (s : ByteArray) (hg : g < w.heap.size) (hx : PR w g x b) (hy : PR w g y c) (dx : dpt x ≤ 1000000) (dy : dpt y ≤ 1000000) : Calls Tryz.prog 65 #[.string s, ptr b, ptr c] w (ResPt w g (heldN s x y)) := by
  have HV := Lib.hid (seq_val s ⟨#[44]⟩)
  unfold heldN
  cases hs : SX.seq s ⟨#[44]⟩ with
  | true =>
    rw [hs] at HV
    rw [if_pos rfl]
    have hq : (s.toList == [44]) = true := by rw [← l44]; exact HV.out
    have HD := Lib.hid (fun T => syNew2 (T := T) hg hx hy dx dy 16 SX.nil)
    clear hg hx hy dx dy hs HV
    go_enter Tryz.func65, Tryz.ntmps65
    go_wp2_with fail
    refine (HD.out _).mono ?_
    rintro e w2 ⟨d, rfl, hb, hp⟩
    have HR := Lib.hid (show ResPt w g (.mk 16 SX.nil [x, y]) (.returned (ptr d)) w2 from ⟨d, rfl, hb, hp⟩)
    clear hb hp HD
    go_wp2
    go_ret
    exact HR.out
  | false =>
    rw [hs] at HV
    rw [if_neg (by decide)]
    have hq : (s.toList == [44]) = false := by rw [← l44]; exact HV.out
    have HD := Lib.hid (fun T => syNew2 (T := T) hg hx hy dx dy 17 s)
    clear hg hx hy dx dy hs HV
    go_enter Tryz.func65, Tryz.ntmps65
    go_wp2_with fail
    refine (HD.out _).mono ?_
    rintro e w2 ⟨d, rfl, hb, hp⟩
    have HR := Lib.hid (show ResPt w g (.mk 17 s [x, y]) (.returned (ptr d)) w2 from ⟨d, rfl, hb, hp⟩)
    clear hb hp HD
    go_wp2
    go_ret
    exact HR.out
end Go.Proofs.YtpgiljibicigeaaGreatDoor

/- syntax: what the rules lean on: those that begin further on. -/
namespace Go.Proofs.YtpgiljibicigeaaGreatDoor
open Go.RowKit SX

def Cn (v : Ev) (g f : Nat) (R : Nat → Nat → Rs Nd) (i : Nat) : Prop := ∀ (w : World) (pp l : Nat), g ≤ l → l < w.heap.size → PB v w g i pp → Calls Tryz.prog f #[ptr g] w (Out v g pp w (R pp i) (VN l))
structure HKs (v : Ev) (g : Nat) (K : Kn) (n : Nat) : Prop where
  pipe : ∀ i, v.L.length - i < n → Cn v g 22 K.pipe i
  climb : ∀ (l i : Nat), v.L.length - i < n → ∀ (w : World) (pp lo : Nat), g ≤ lo → lo < w.heap.size → PB v w g i pp → Calls Tryz.prog 42 #[ptr g, .int .i64 (l : Int)] w (Out v g pp w (K.climb l pp i) (VN lo))
  neg : ∀ i, v.L.length - i < n → Cn v g 63 K.neg i
  post : ∀ i, v.L.length - i < n → Cn v g 85 K.post i
  pat : ∀ i, v.L.length - i < n → Cn v g 86 K.pat i
  choice : ∀ i, v.L.length - i + 1 < n → Cn v g 113 K.choice i
end Go.Proofs.YtpgiljibicigeaaGreatDoor

/- syntax: append of one element, and where the row stands then. -/
namespace Go.Proofs.YtpgiljibicigeaaGreatDoor
open Go.RowKit SX

theorem infoPt : (Tryz.prog.info? 44).map (fun i => (i.zero, i.size, i.bytes)) = some (some (.pointer none), 1, 8) := by kernel_rfl
set_option maxRecDepth 100000 in
theorem append_at {W : World} {ty : TypeId} {i : TypeInfo} {B g n cap : Nat} {xs : List Value} {e : TypeId} {z : Value} (ht : Tryz.prog.underlying 47 = some (.slice e)) (hi : Tryz.prog.info? e = some i) (hz : i.zero = some z) (h1 : i.size = 1) (h8 : i.bytes = 8)
    (hown : W.ownsRow B e 1 (.slice (some ⟨g, 0, none⟩) n cap) n xs) {a : Addr} {c : Nat} {u : Value} (hu : W.cell? (a.add 0) = some u) (ho : u.oneCell' = true) (hn : n ≤ 1000000) {v' : Value} {w' : World}
    (hr : (Builtin.append_ #[47, 47] ty #[.slice (some ⟨g, 0, none⟩) n cap, .slice (some a) 1 c]).run Tryz.prog W = .ok v' w') : v'.ownBlock = some g ∨ v'.ownBlock = some W.heap.size := by
  rcases hown.2 with ⟨h, _⟩ | ⟨g2, cap2, cur, h, _, hg, hnc, hcm, hcs, _⟩
  · cases h
  · cases h
    have hnews : ∀ j v, [u][j]? = some v → W.cell? (a.add j) = some v := fun j v hj => by
      cases j with
      | zero => obtain rfl : u = v := by simpa using hj
                exact hu
      | succ j => simp at hj
    by_cases hroom : n + 1 ≤ cap
    · rw [run_append_room (P := Tryz.prog) W 47 ty e i ht hi g n cap cur hg a 1 c [u] (by simp [h1]) hnews (by simpa using ho) hroom (by simp [h1, hcs]; omega)] at hr
      left
      obtain ⟨hv, _⟩ := Result.ok.inj hr
      rw [← hv]; rfl
    · have holds := hown.cells (g := g) rfl
      rw [run_append_grow (P := Tryz.prog) W 47 ty e i z ht hi hz ⟨g, 0, none⟩ n cap xs (by rw [h1]; exact hown.1) holds a 1 c [u] (by simp [h1]) hnews (by omega) (by omega) (by
        rw [h8]
        exact growslice_fits_wide (by omega) (by omega))] at hr
      right
      obtain ⟨hv, _⟩ := Result.ok.inj hr
      rw [← hv]; rfl
/-- one part's pointer more -/
theorem wp_rowP {ops : Array Oper} {rest : List Oper} {o : Oper} {a : Act} {Q : Exit → Act → World → Prop} (w0 : World) (hg : o.guard = none) (s x : Operand)
    (hop : o.op = Op.call { callee := Callee.builtin Builtin.append, args := #[s, x], argTypes := #[47, 47] })
    (B q cap n : Nat) (xs : List Value) (b : Nat) (e' : TypeId) (hs : a.eval s = .slice (some ⟨q, 0, none⟩) n cap)
    (hx : a.eval x = .slice (some ⟨w0.heap.size, 0, none⟩) 1 1)
    (hown : OwnV w0 B 44 1 (some ⟨q, 0, none⟩) n cap xs) (hn : n ≤ 1000000) (hB : B ≤ w0.heap.size)
    (hK : ∀ q' cap' w', OwnV w' B 44 1 (some ⟨q', 0, none⟩) (n + 1) cap' (xs ++ [ptr b]) → Below B w0 w' → Oth w0 w' (some ⟨q, 0, none⟩) → (q' = q ∨ w0.heap.size ≤ q') → wpList Tryz.prog ops Q rest (a.put o.dst (.slice (some ⟨q', 0, none⟩) (n + 1) cap')) w') :
    wpList Tryz.prog ops Q (o :: rest) a (w0.alloc (.cells #[ptr b] e')) := by
  obtain ⟨i, hi, hz0, hz1, hz2⟩ := info_parts infoPt
  have hown' : (w0.alloc (.cells #[ptr b] e')).ownsRow B 44 1 (.slice (some ⟨q, 0, none⟩) n cap) n xs := World.ownsRow.alloc hown _
  have hc : (w0.alloc (.cells #[ptr b] e')).cell? ((⟨w0.heap.size, 0, none⟩ : Addr).add 0) = some (ptr b) := cell_new rfl
  have hnews : ∀ j v, [ptr b][j]? = some v → (w0.alloc (.cells #[ptr b] e')).cell? ((⟨w0.heap.size, 0, none⟩ : Addr).add j) = some v := fun j v hj => by
    cases j with
    | zero => obtain rfl : ptr b = v := by simpa using hj
              exact hc
    | succ j => simp at hj
  refine wpList_plain hg fun K hK2 => ?_
  obtain ⟨v', w', hr, h2, h3, h4⟩ := run_append_own_wide (P := Tryz.prog) (w0.alloc (.cells #[ptr b] e')) B 47 o.type 44 i (.pointer none) 1 8 Tryz.underlying47 hi hz0 hz1 hz2 rfl (by decide) _ _ _ hown' ⟨w0.heap.size, 0, none⟩ 1 1 [ptr b] rfl hnews (by intro u hu; simp at hu; subst hu; rfl) (by unfold maxLen; omega) (by omega) (by simp; omega)
  have hw := append_at (ty := o.type) Tryz.underlying47 hi hz0 hz1 hz2 hown' hc rfl hn hr
  unfold Oper.wp execOp
  simp only [hop, resolve, invoke, builtin, Sem.run_bind, Sem.run_pure, Result.andThen_ok, List.map_toArray, List.map_cons, List.map_nil, hs, hx, hr]
  refine hK2 _ _ ?_
  have hsh : ∃ q' cap', v' = .slice (some ⟨q', 0, none⟩) (n + 1) cap' := by
    rcases h2.2 with ⟨h1, h2⟩ | ⟨g, cap', cur, h1, _⟩
    · omega
    · exact ⟨_, _, h1⟩
  obtain ⟨q', cap', rfl⟩ := hsh
  refine hK q' cap' w' h2 ?_ ⟨?_, fun k hk ha => ?_⟩ ?_
  · exact ((Below.refl B w0).alloc hB _).grown h3 (by simp; omega) (fun j hj => (hown'.lt j hj).1)
  · have := h3.size
    simp at this; omega
  · rw [h3.block k (by simp; omega) (fun hk2 => ha (by simp [Value.ownBlock] at hk2; rw [hk2]))]
    exact heap_alloc_old w0 _ hk
  · rcases hw with h | h
    · left; simpa [Value.ownBlock] using h
    · right
      have : q' = (w0.alloc (.cells #[ptr b] e')).heap.size := by simpa [Value.ownBlock] using h
      rw [this]; simp
end Go.Proofs.YtpgiljibicigeaaGreatDoor

/- syntax: rows of items walked. -/
namespace Go.Proofs.YtpgiljibicigeaaGreatDoor
open Go.RowKit SX

/-- the items of a row that stands at ao: none of their blocks is it -/
def Its (w : World) (l : Nat) (ao : Option Addr) (ks : List Nd) (bs : List Nat) : Prop := ∀ (i : Nat) (x : Nd), ks[i]? = some x → ∃ b, bs[i]? = some b ∧ PRA w (fun k => l < k ∧ ao ≠ some ⟨k, 0, none⟩) x b
structure RowS (w : World) (l : Nat) (ao : Option Addr) (cap : Nat) (ks : List Nd) (bs : List Nat) : Prop where
  own : OwnV w (l + 1) 44 1 ao ks.length cap (bs.map ptr)
  len : bs.length = ks.length
  it : Its w l ao ks bs
def VL (l : Nat) : List Nd → Value → World → Prop := fun ks u w' => ∃ ao cap bs, u = .slice ao ks.length cap ∧ RowS w' l ao cap ks bs ∧ ks.length ≤ 100000
theorem RowS.keep {w w' : World} {g l : Nat} {ao : Option Addr} {cap : Nat} {ks : List Nd} {bs : List Nat} (h : RowS w l ao cap ks bs) (hb : w.grownBy w' (some g)) (hl : g ≤ l) : RowS w' l ao cap ks bs :=
  ⟨h.own.gbl hb (by omega), h.len, fun i x hx => by
    obtain ⟨b, h1, h2⟩ := h.it i x hx
    exact ⟨b, h1, h2.to (fun k hk hs => ⟨hb.block k hs (by simp; omega), hk⟩)⟩⟩
theorem RowS.one {w : World} {l b : Nat} {x : Nd} (hl : l < w.heap.size) (hx : PR w l x b) : RowS (w.alloc (.cells #[ptr b] 44)) l (some ⟨w.heap.size, 0, none⟩) 1 [x] [b] :=
  ⟨World.ownsRow_lit w #[ptr b] 1 hl (by unfold maxLen; omega) rfl, rfl, fun i y hy => by
    match i, hy with
    | 0, hy =>
      obtain rfl : x = y := by simpa using hy
      exact ⟨b, rfl, PRA.to (fun k hk hs => ⟨heap_alloc_old w _ hs, hk, by simp <;> omega⟩) hx⟩
    | i + 1, hy => simp at hy⟩
/-- one more behind them: x's blocks are all newer than the row -/
theorem RowS.more {w w' : World} {l q q' cap cap' b : Nat} {ks : List Nd} {bs : List Nat} {x : Nd} {m : Nat} (h : RowS w l (some ⟨q, 0, none⟩) cap ks bs) (ho : OwnV w' (l + 1) 44 1 (some ⟨q', 0, none⟩) (ks.length + 1) cap' (bs.map ptr ++ [ptr b])) (hoth : Oth w w' (some ⟨q, 0, none⟩)) (hq : q' = q ∨ w.heap.size ≤ q') (hx : PR w m x b) (hqm : q ≤ m) (hlm : l ≤ m) :
    RowS w' l (some ⟨q', 0, none⟩) cap' (ks ++ [x]) (bs ++ [b]) := by
  refine ⟨by rw [List.length_append, List.map_append]; exact ho, by simp [h.len], fun i y hy => ?_⟩
  rcases Nat.lt_or_ge i ks.length with hi | hi
  · rw [List.getElem?_append_left hi] at hy
    obtain ⟨c, h1, h2⟩ := h.it i y hy
    refine ⟨c, by rw [List.getElem?_append_left (by rw [h.len]; exact hi)]; exact h1, h2.to (fun k hk hs => ⟨hoth.2 k hs hk.2.symm.symm, hk.1, ?_⟩)⟩
    rcases hq with rfl | hq
    · exact hk.2
    · simp <;> omega
  · rw [List.getElem?_append_right hi] at hy
    have hi0 : i - ks.length = 0 := by
      rcases Nat.eq_zero_or_pos (i - ks.length) with h0 | h0
      · exact h0
      · rw [List.getElem?_eq_none (by simp <;> omega)] at hy; cases hy
    rw [hi0] at hy
    obtain rfl : x = y := by simpa using hy
    refine ⟨b, by rw [List.getElem?_append_right (by rw [h.len]; exact hi), h.len, hi0]; rfl, PRA.to (fun k hk hs => ⟨hoth.2 k hs (by simp <;> omega), by omega, ?_⟩) hx⟩
    rcases hq with rfl | hq
    · simp <;> omega
    · simp <;> omega
/-- what stands in the loop of a row -/
def RowI (v : Ev) (g pp l : Nat) (w0 wr : World) (acc : List Nd) (i q cap : Nat) (bs : List Nat) : Prop := RowS wr l (some ⟨q, 0, none⟩) cap acc bs ∧ PB v wr g i pp ∧ w0.grownBy wr (some g) ∧ acc.length ≤ i ∧ w0.heap.size ≤ q
theorem PB.bel2 {v : Ev} {w w' : World} {g i pp l : Nat} (h : PB v w g i pp) (hb : Below (l + 1) w w') (hl : g ≤ l) : PB v w' g i pp := by
  obtain ⟨ao, cap, h⟩ := h
  have key : ∀ (b j : Nat) (u : Value), b < l + 1 → w.cell? ⟨b, j, none⟩ = some u → w'.cell? ⟨b, j, none⟩ = some u := fun b j u hl e => by rw [hb.cell (p := ⟨b, j, none⟩) hl]; exact e
  refine ⟨ao, cap, key _ _ _ (by omega) h.c0, key _ _ _ (by omega) h.c1, key _ _ _ (by omega) h.c2, key _ _ _ (by omega) h.c3, fun j => (hb.frozen (p := ⟨g, j, none⟩) (show g < l + 1 by omega)).trans (h.fz j), ?_, h.il, h.pl, ?_⟩
  · rcases h.tk with e | ⟨tb, e, hl2, hc⟩
    · exact .inl e
    · exact .inr ⟨tb, e, hl2, fun j u hu => key _ _ _ (by omega) (hc j u hu)⟩
  · obtain ⟨w0, h1, h2, h3, h4⟩ := h.tb
    exact ⟨w0, h1, Nat.le_trans h2 hb.size, h3, h4.trans (hb.mono (by omega))⟩
theorem gb_app {w w4 w5 : World} {g q B : Nat} (h : w.grownBy w4 (some g)) (hb : Below B w4 w5) (ho : Oth w4 w5 (some ⟨q, 0, none⟩)) (hq : w.heap.size ≤ q) : w.grownBy w5 (some g) :=
  ⟨hb.os.trans h.os, hb.tape.trans h.tape, hb.output.trans h.output, Nat.le_trans h.size hb.size, fun k hk hne => (ho.2 k (Nat.lt_of_lt_of_le hk h.size) (by simp <;> omega)).trans (h.block k hk hne)⟩
set_option maxRecDepth 100000 in
set_option maxHeartbeats 8000000 in
theorem syRow {v : Ev} {g m F : Nat} (hF : ∀ (args : Array Value) (w : World), (callFunc F args).run Tryz.prog w = .ok (.enter F args) w) {IT : Nat → Nat → Rs Nd} (hA : Hid (EvA v)) (hit : Hid (∀ i, v.L.length - i < m → Cn v g F IT i)) (hiv : Hid (∀ pp i, i ≤ v.L.length → (IT pp i).all (P1 v 0 i) (Qe v))) (S T : ByteArray) {i : Nat} (hn : v.L.length - i < m)
    (w : World) (pp l : Nat) (hgl : g ≤ l) (hlw : l < w.heap.size) (h : PB v w g i pp) :
    Calls Tryz.prog 61 #[ptr g, .func (.func F) #[ptr g] #[], .string S, .string T] w (Out v g pp w (rowF v (IT pp) S T i) (VL l)) := by
  have hlen := hA.out.k.len
  have HLE := Lib.hid hlen
  have HL : Hid (g ≤ l ∧ l < w.heap.size) := Lib.hid ⟨hgl, hlw⟩
  have HN := Lib.hid hn
  have hc := hit.out i hn w pp l hgl hlw h
  have hi := hiv.out pp i h.il
  obtain ⟨R1, hR1⟩ : ∃ R, IT pp i = R := ⟨_, rfl⟩
  rw [hR1] at hc hi
  have HC := Lib.hid hc; have HI := Lib.hid hi; have HR1 := Lib.hid hR1
  obtain ⟨R, hR⟩ : ∃ R, rowF v (IT pp) S T i = R := ⟨_, rfl⟩
  rw [hR]
  have hR' := hR
  unfold rowF at hR'
  rw [hR1] at hR'
  have HR := Lib.hid hR'
  clear hc hi hR1 hR hR' h hgl hlw hn hlen
  go_enter Tryz.func61, Tryz.ntmps61
  go_wp2_with fail
  refine HC.out.mono ?_
  intro e w1 ho
  clear HC
  rcases out_cases ho with ⟨x, j, u, rfl, rfl, hv, hp, hb⟩ | ⟨a, er, rfl, rfl, hb⟩
  · obtain ⟨b, rfl, hx⟩ := hv
    have hpi : P1 v 0 i x j := HI.out
    have HRI : Hid (RowI v g pp l w (w1.alloc (.cells #[ptr b] 44)) [x] j w1.heap.size 1 [b]) := Lib.hid ⟨RowS.one (Nat.lt_of_lt_of_le HL.out.2 hb.size) hx, hp.below ((Below.refl _ _).alloc (Nat.le_refl _) _), gb_trans hb (gbOfB ((Below.refl _ _).alloc (Nat.le_refl _) _)), by have := hpi.1; simp; omega, hb.size⟩
    have HRL : Hid (rowL v (IT pp) S T (v.L.length + 1) [x] j = R) := Lib.hid HR.out
    have HJ : Hid (i < j) := Lib.hid hpi.1
    clear ho hp hb hx hpi HI HR HR1
    go_wp2_with fail
    go_loopg [9] (v.L.length + 1) (fun gk s9 wr => ∃ (acc : List Nd) (bs : List Nat) (k q cap : Nat), v.L.length < k + gk ∧ s9 = .slice (some ⟨q, 0, none⟩) acc.length cap ∧ Hid (RowI v g pp l w wr acc k q cap bs) ∧ Hid (rowL v (IT pp) S T gk acc k = R) ∧ Hid (i < k))
    case atStart => exact ⟨[x], [b], j, _, 1, by omega, rfl, HRI, HRL, HJ⟩
    case round =>
      obtain ⟨acc, bs, k, q, cap, hk, rfl, HRI, HRL, HJ⟩ := hrel
      obtain ⟨hrow, hpb, hgb, hal, hq0⟩ := HRI.out
      have hkl := hpb.il
      have hlen := HLE.out
      obtain ⟨f, rfl⟩ : ∃ f, gk = f + 1 := ⟨gk - 1, by omega⟩
      have hrl := HRL.out
      rw [rowL] at hrl
      have HRL2 := Lib.hid hrl
      have HROW := Lib.hid hrow; have HPB := Lib.hid hpb; have HGB := Lib.hid hgb; have HQ0 := Lib.hid hq0
      have HAL : Hid (acc.length ≤ k ∧ k ≤ v.L.length ∧ v.L.length < k + (f + 1)) := Lib.hid ⟨hal, hkl, hk⟩
      clear hrow hpb hgb hrl HRI HRL hq0 hal hkl hk hlen
      cases hS : isS v k T with
      | true =>
        have HS := Lib.hid hS
        clear hS
        go_wp2_with fail
        refine (sySkipYes hA.out.k HPB.out HS.out).mono ?_
        rintro e w2 ⟨rfl, hp, hb⟩
        have HF : Hid (Out v g pp w R (VL l) (.returned (.slice (some ⟨q, 0, none⟩) acc.length cap)) w2) := Lib.hid (by
          have := HRL2.out
          rw [if_pos HS.out] at this
          rw [← this]
          exact ⟨_, rfl, ⟨_, cap, bs, rfl, HROW.out.keep hb HL.out.1, by have := HAL.out; have := HLE.out; omega⟩, hp, gb_trans HGB.out hb⟩)
        clear hp hb HRL2 HROW HPB HGB
        go_wp2
        go_ret
        exact HF.out
      | false =>
        have HS := Lib.hid hS
        have hrl := HRL2.out
        rw [if_neg (by rw [hS]; decide)] at hrl
        have HR3 := Lib.hid hrl
        clear hS hrl HRL2
        go_wp2_with fail
        refine (sySkipNo hA.out.k HPB.out HS.out).mono ?_
        rintro e w2 ⟨rfl, hp, hb⟩
        have HROW2 := Lib.hid (HROW.out.keep hb HL.out.1); have HPB2 := Lib.hid hp; have HGB2 := Lib.hid (gb_trans HGB.out hb)
        clear hp hb HROW HPB HGB HS
        go_wp2_with fail
        obtain ⟨R2, hR2⟩ : ∃ R, ned v S k = R := ⟨_, rfl⟩
        have hi2 := ned_iv hA.out.q HPB2.out.il (s := S)
        have hr3 := HR3.out
        rw [hR2] at hi2 hr3
        have hc2 := syNeed hA.out.k HPB2.out S
        rw [hR2] at hc2
        have HC2 := Lib.hid hc2; have HI2 := Lib.hid hi2; have HR4 := Lib.hid hr3
        clear hc2 hi2 hr3 hR2 HR3
        refine HC2.out.mono ?_
        intro e w3 ho
        clear HC2
        rcases out_cases ho with ⟨x2, j2, u, rfl, rfl, hv, hp, hb⟩ | ⟨a, er, rfl, rfl, hb⟩
        · obtain rfl := hv
          have ht1 : T1 v k x2 j2 := HI2.out
          have HROW3 := Lib.hid (HROW2.out.keep hb HL.out.1); have HPB3 := Lib.hid hp; have HGB3 := Lib.hid (gb_trans HGB2.out hb)
          have HJ2 : Hid (j2 = k + 1) := Lib.hid ht1.1
          have hn3 : v.L.length - j2 < m := by have := HN.out; have := HJ.out; have := ht1.1; omega
          have hc3 := hit.out j2 hn3 w3 pp (w3.heap.size - 1) (by have := hp.lt; omega) (by have := hp.lt; omega) hp
          have hi3 := hiv.out pp j2 hp.il
          obtain ⟨R3, hR3⟩ : ∃ R, IT pp j2 = R := ⟨_, rfl⟩
          have hr4 : ((IT pp j2).bind fun x k => rowL v (IT pp) S T f (acc ++ [x]) k) = R := HR4.out
          rw [hR3] at hc3 hi3 hr4
          have HC3 := Lib.hid hc3; have HI3 := Lib.hid hi3; have HR5 := Lib.hid hr4
          clear ho hp hb HROW2 HPB2 HGB2 ht1 hc3 hi3 hR3 hr4 HR4 HI2 hn3
          go_wp2_with fail
          refine HC3.out.mono ?_
          intro e w4 ho
          clear HC3
          rcases out_cases ho with ⟨x3, j3, u, rfl, rfl, hv, hp, hb⟩ | ⟨a, er, rfl, rfl, hb⟩
          · obtain ⟨b3, rfl, hx3⟩ := hv
            have ht3 : P1 v 0 j2 x3 j3 := HI3.out
            have HROW4 := Lib.hid (HROW3.out.keep hb HL.out.1); have HPB4 := Lib.hid hp; have HGB4 := Lib.hid (gb_trans HGB3.out hb)
            have HX3 := Lib.hid hx3
            have HJ3 : Hid (j2 < j3 ∧ j3 ≤ v.L.length) := Lib.hid ⟨ht3.1, ht3.2.1⟩
            have HR6 : Hid (rowL v (IT pp) S T f (acc ++ [x3]) j3 = R) := Lib.hid HR5.out
            have HQ : Hid (q ≤ w3.heap.size - 1 ∧ l ≤ w3.heap.size - 1 ∧ l < w4.heap.size) := Lib.hid ⟨by
              have hc : acc ≠ [] ∨ acc = [] := by cases acc <;> simp
              have := HROW3.out.own.low q rfl
              omega, by have := Nat.lt_of_lt_of_le HL.out.2 HGB3.out.size; omega, Nat.lt_of_lt_of_le HL.out.2 HGB4.out.size⟩
            clear ho hp hb hx3 ht3 HROW3 HPB3 HGB3 HI3 HR5
            go_wp2_with (at_builtin; refine wp_rowP _ rfl _ _ rfl (l + 1) q cap acc.length (bs.map ptr) b3 _ rfl rfl HROW4.out.own (by have := HAL.out; have := HLE.out; omega) HQ.out.2.2 ?_; intro q5 cap5 w5 e1 e2 e3 e4)
            have HROW5 := Lib.hid (HROW4.out.more e1 e3 e4 HX3.out HQ.out.1 HQ.out.2.1)
            have HPB5 : Hid (PB v w5 g j3 pp) := Lib.hid (HPB4.out.bel2 e2 HL.out.1)
            have HGB5 : Hid (w.grownBy w5 (some g)) := Lib.hid (gb_app HGB4.out e2 e3 HQ0.out)
            have HQ5 : Hid (w.heap.size ≤ q5) := Lib.hid (by rcases e4 with rfl | h
                                                             · exact HQ0.out
                                                             · exact Nat.le_trans HGB4.out.size h)
            clear e1 e2 e3 e4 HROW4 HPB4 HGB4 HX3
            go_wp2
            go_roundg f
            case measure => omega
            case rel => exact ⟨acc ++ [x3], bs ++ [b3], j3, q5, cap5, by have := HAL.out; have := HJ2.out; have := HJ3.out; omega, by rw [List.length_append]; rfl, Lib.hid ⟨HROW5.out, HPB5.out, HGB5.out, by have := HAL.out; have := HJ2.out; have := HJ3.out; rw [List.length_append]; simp; omega, HQ5.out⟩, HR6, Lib.hid (by have := HJ.out; have := HJ2.out; have := HJ3.out; omega)⟩
          · have HG := Lib.hid (gb_trans HGB3.out hb)
            have HE : Hid (R = Rs.err a er) := Lib.hid HR5.out.symm
            clear ho hb HI3 HR5 HROW3 HPB3 HGB3
            go_wp2
            refine ⟨rfl, ?_⟩
            rw [HE.out]
            exact ⟨rfl, HG.out⟩
        · have HG := Lib.hid (gb_trans HGB2.out hb)
          have HE : Hid (R = Rs.err a er) := Lib.hid HR4.out.symm
          clear ho hb HI2 HR4 HROW2 HPB2 HGB2
          go_wp2
          refine ⟨rfl, ?_⟩
          rw [HE.out]
          exact ⟨rfl, HG.out⟩
  · have HG := Lib.hid hb
    have HE : Hid (R = Rs.err a er) := Lib.hid HR.out.symm
    clear ho hb HI HR HR1
    go_wp2
    refine ⟨rfl, ?_⟩
    rw [HE.out]
    exact ⟨rfl, HG.out⟩
end Go.Proofs.YtpgiljibicigeaaGreatDoor
