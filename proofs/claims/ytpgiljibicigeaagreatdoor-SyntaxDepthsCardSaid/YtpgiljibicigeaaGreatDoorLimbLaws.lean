/- Laws of the walk for a list of the call's own: made, appended to, written into. Nothing of the program. -/
import Derived.Test.YtpgiljibicigeaaGreatDoorLimbMaths
import Derived.Test.YtpgiljibicigeaaGreatDoorChecked
import Derived.Outline
import Derived.BigQuiet
import Derived.Deep.QuietTactic
set_option linter.unusedVariables false
set_option linter.unusedSimpArgs false
namespace Go.Proofs.YtpgiljibicigeaaGreatDoor
open Go.RowKit

section
variable {P : Program} {ops : Array Oper} {rest : List Oper} {o : Oper} {a : Act} {Q : Exit → Act → World → Prop}

theorem Below.ofGrown {B : Nat} {w w' : World} {row : Option Nat} (hg : w.grownBy w' row) (hB : B ≤ w.heap.size) (hr : ∀ k, row = some k → B ≤ k) : Below B w w' := (Below.refl B w).grown hg hB hr

/-- 'append(l, y)', l the call's own; it may grow. -/
theorem wp_push (w0 : World) (hg : o.guard = none) (s x : Operand) (t : TypeId)
    (hop : o.op = Op.call { callee := Callee.builtin Builtin.append, args := #[s, x], argTypes := #[t, t] })
    (B : Nat) (e : TypeId) (k : IntKind) (bytes : Nat) (hu : P.underlying t = some (.slice e)) (hinfo : (P.info? e).map (fun i => (i.zero, i.size, i.bytes)) = some (some (.int k 0), 1, bytes))
    (ao : Option Addr) (cap n : Nat) (l : List Nat) (hn : n = l.length) (hs : a.eval s = .slice ao n cap) (yv : Int) (y : Nat) (hy : yv = (y : Int)) (e' : TypeId)
    (hx : a.eval x = .slice (some ⟨w0.heap.size, 0, none⟩) 1 1)
    (hown : Own w0 B e k ao cap l) (hbytes : (l.length + 1) * bytes ≤ 140737488355328) (hlen : l.length + 1 ≤ maxLen) (hB : B ≤ w0.heap.size)
    (hK : ∀ ao' cap' w', Own w' B e k ao' cap' (l ++ [y]) → Below B w0 w' → wpList P ops Q rest (a.put o.dst (.slice ao' (n + 1) cap')) w') :
    wpList P ops Q (o :: rest) a (w0.alloc (.cells #[.int k yv] e')) := by
  subst hn hy
  obtain ⟨i, hi, hz0, hz1, hz2⟩ := info_parts hinfo
  have hown' : (w0.alloc (.cells #[.int k (y : Int)] e')).ownsRow B e 1 (.slice ao l.length cap) l.length (cs k l) := World.ownsRow.alloc hown _
  refine wpList_append_own _ hg s x t hop B e i (.int k 0) 1 bytes hu hi hz0 hz1 hz2 rfl (by decide) _ _ _ hs hown' ⟨w0.heap.size, 0, none⟩ 1 1 [.int k (y : Int)] hx rfl ?_ ?_ hlen hbytes (by simp; omega) ?_
  · intro j u hj
    match j, hj with
    | 0, hj =>
      simp at hj; subst hj
      simp [Addr.add]
    | j + 1, hj => simp at hj
  · intro u hu; simp at hu; subst hu; rfl
  · intro v' w' ho hgr hnil
    have hb : Below B w0 w' := ((Below.refl B w0).alloc hB _).grown hgr (by simp; omega) (fun j hj => (hown'.lt j hj).1)
    have hsh : ∃ ao' cap', v' = .slice ao' (l.length + 1) cap' := by
      rcases ho.2 with ⟨h1, h2⟩ | ⟨g, cap', cur, h1, _⟩
      · omega
      · exact ⟨_, _, h1⟩
    obtain ⟨ao', cap', rfl⟩ := hsh
    refine hK ao' cap' w' ?_ hb
    unfold Own
    rw [cs_append, show cs k [y] = [Value.int k (y : Int)] from rfl]; simpa using ho

/-- 'append(l, y)' within the capacity. -/
theorem wp_pushFits (w0 : World) (hg : o.guard = none) (s x : Operand) (t : TypeId)
    (hop : o.op = Op.call { callee := Callee.builtin Builtin.append, args := #[s, x], argTypes := #[t, t] })
    (B : Nat) (e : TypeId) (k : IntKind) (bytes : Nat) (hu : P.underlying t = some (.slice e)) (hinfo : (P.info? e).map (fun i => (i.zero, i.size, i.bytes)) = some (some (.int k 0), 1, bytes))
    (g cap n : Nat) (l : List Nat) (hn : n = l.length) (hs : a.eval s = .slice (some ⟨g, 0, none⟩) n cap) (yv : Int) (y : Nat) (hy : yv = (y : Int)) (e' : TypeId)
    (hx : a.eval x = .slice (some ⟨w0.heap.size, 0, none⟩) 1 1)
    (hown : Own w0 B e k (some ⟨g, 0, none⟩) cap l) (hfit : l.length + 1 ≤ cap) (hB : B ≤ w0.heap.size)
    (hK : ∀ w', Own w' B e k (some ⟨g, 0, none⟩) cap (l ++ [y]) → Below B w0 w' → wpList P ops Q rest (a.put o.dst (.slice (some ⟨g, 0, none⟩) (n + 1) cap)) w') :
    wpList P ops Q (o :: rest) a (w0.alloc (.cells #[.int k yv] e')) := by
  subst hn hy
  obtain ⟨i, hi, hz0, hz1, hz2⟩ := info_parts hinfo
  have hown' : (w0.alloc (.cells #[.int k (y : Int)] e')).ownsRow B e 1 (.slice (some ⟨g, 0, none⟩) l.length cap) l.length (cs k l) := World.ownsRow.alloc hown _
  refine wpList_append_fits _ hg s x t hop B e i 1 hu hi hz1 g l.length cap (cs k l) hs hown' ⟨w0.heap.size, 0, none⟩ 1 1 [.int k (y : Int)] hx rfl ?_ ?_ hfit ?_
  · intro j u hj
    match j, hj with
    | 0, hj =>
      simp at hj; subst hj
      simp [Addr.add]
    | j + 1, hj => simp at hj
  · intro u hu; simp at hu; subst hu; rfl
  · intro w' ho hgr
    have hgB : B ≤ g := by
      rcases hown.shape with ⟨h, _⟩ | ⟨g', h, hb, _⟩
      · cases h
      · simp at h; omega
    have hb : Below B w0 w' := ((Below.refl B w0).alloc hB _).grown hgr (by simp; omega) (fun j hj => by simp at hj; omega)
    refine hK w' ?_ hb
    unfold Own
    rw [cs_append, show cs k [y] = [Value.int k (y : Int)] from rfl]; simpa using ho

/-- 'make([]T, 0, n)' -/
theorem wp_make0 (w : World) (hg : o.guard = none) (l c : Operand) (t : TypeId) (hop : o.op = Op.makeSlice t l c)
    (B : Nat) (e : TypeId) (k : IntKind) (bytes : Nat) (hu : P.underlying t = some (.slice e)) (hinfo : (P.info? e).map (fun i => (i.zero, i.size, i.bytes)) = some (some (.int k 0), 1, bytes))
    (kl kc : IntKind) (C : Int) (n : Nat) (hl : a.eval l = .int kl 0) (hc : a.eval c = .int kc C) (hC : C = (n : Int)) (b2 : bytes * n ≤ 281474976710656) (b3 : n ≤ maxLen) (hB : B ≤ w.heap.size)
    (hK : ∀ w', Own w' B e k (some ⟨w.heap.size, 0, none⟩) n [] → Below B w w' → wpList P ops Q rest (a.put o.dst (.slice (some ⟨w.heap.size, 0, none⟩) 0 n)) w') :
    wpList P ops Q (o :: rest) a w := by
  obtain ⟨i, hi, hz0, hz1, hz2⟩ := info_parts hinfo
  exact wpList_make_own w hg l c t hop B e i (.int k 0) 1 hu hi hz0 hz1 kl kc C n hl hc hC (by rw [hz2]; exact b2) b3 hB (fun w' ho hgr => hK w' ho (Below.ofGrown hgr hB (fun _ h => by cases h)))

/-- 'make([]T, n)' -/
theorem wp_make (w : World) (hg : o.guard = none) (l c : Operand) (t : TypeId) (hop : o.op = Op.makeSlice t l c)
    (B : Nat) (e : TypeId) (k : IntKind) (bytes : Nat) (hu : P.underlying t = some (.slice e)) (hinfo : (P.info? e).map (fun i => (i.zero, i.size, i.bytes)) = some (some (.int k 0), 1, bytes))
    (kl kc : IntKind) (L C : Int) (n : Nat) (hl : a.eval l = .int kl L) (hc : a.eval c = .int kc C) (hL : L = (n : Int)) (hC : C = (n : Int)) (b2 : bytes * n ≤ 281474976710656) (b3 : n ≤ maxLen) (hB : B ≤ w.heap.size)
    (hK : ∀ w', Own w' B e k (some ⟨w.heap.size, 0, none⟩) n (List.replicate n 0) → Below B w w' → wpList P ops Q rest (a.put o.dst (.slice (some ⟨w.heap.size, 0, none⟩) n n)) w') :
    wpList P ops Q (o :: rest) a w := by
  obtain ⟨i, hi, hz0, hz1, hz2⟩ := info_parts hinfo
  refine wpList_make_full w hg l c t hop B e i (.int k 0) 1 hu hi hz0 hz1 kl kc L C n hl hc hL hC (by rw [hz2]; exact b2) b3 hB (fun w' ho hgr => hK w' ?_ (Below.ofGrown hgr hB (fun _ h => by cases h)))
  unfold Own
  have : (madeCells (Value.int k 0).cells (n * 1)).toList = cs k (List.replicate n 0) := by
    rw [Nat.mul_one, show (Value.int k 0).cells = #[Value.int k 0] from rfl, toList_madeCells_one]; simp [cs]
  rw [this] at ho; simpa using ho
end

/-- a store into a row of the call's own -/
theorem Own.set {w : World} {B : Nat} {e : TypeId} {k : IntKind} {g cap : Nat} {l : List Nat} (h : Own w B e k (some ⟨g, 0, none⟩) cap l) (j y : Nat) :
    Own (w.setCell ⟨g, j, none⟩ (.int k (y : Int))) B e k (some ⟨g, 0, none⟩) cap (l.set j y) := by
  have := (World.ownsRow.stored h j (.int k (y : Int))).1
  unfold Own
  rw [cs_set]; simpa using this
theorem Own.set' {w : World} {B : Nat} {e : TypeId} {k : IntKind} {g cap : Nat} {l : List Nat} (h : Own w B e k (some ⟨g, 0, none⟩) cap l) (j : Nat) {yv : Int} (y : Nat) (hy : yv = (y : Int)) :
    Own (w.setCell ⟨g, j, none⟩ (.int k yv)) B e k (some ⟨g, 0, none⟩) cap (l.set j y) := by subst hy; exact h.set j y
theorem Own.cell {w : World} {B : Nat} {e : TypeId} {k : IntKind} {g cap : Nat} {l : List Nat} (h : Own w B e k (some ⟨g, 0, none⟩) cap l) (j : Nat) (hj : j < l.length) :
    w.cell? ⟨g, j, none⟩ = some (.int k ((l[j]?.getD 0 : Nat) : Int)) := by
  have h' : w.ownsRow B e 1 (.slice (some ⟨g, 0, none⟩) l.length cap) l.length (cs k l) := h
  rw [h'.cellAt j (by omega), cs_get hj]
theorem Own.drew {w : World} {B : Nat} {e : TypeId} {k : IntKind} {a : Option Addr} {cap : Nat} {l : List Nat} (h : Own w B e k a cap l) : Own w.drew B e k a cap l := World.ownsRow.drew h
theorem Own.alloc {w : World} {B : Nat} {e : TypeId} {k : IntKind} {a : Option Addr} {cap : Nat} {l : List Nat} (h : Own w B e k a cap l) (o : Obj) : Own (w.alloc o) B e k a cap l := World.ownsRow.alloc h o
theorem Rd.alloc {w : World} {k : IntKind} {a : Option Addr} {l : List Nat} (h : Rd w k a l) (o : Obj) : Rd (w.alloc o) k a l := h.below ((Below.refl _ _).alloc (Nat.le_refl _) o)
theorem Rd.drew {w : World} {k : IntKind} {a : Option Addr} {l : List Nat} (h : Rd w k a l) : Rd w.drew k a l := h
/-- 'append(l, y)' as one step of a region that draws -/
theorem step_push {P : Program} {ops : Array Oper} {o : Oper} {a : Act} {K : Act → World → Prop} {Q : Exit → Act → World → Prop} {E : Prop} (wx : World) (hg : o.guard = none) (s x : Operand) (t : TypeId)
    (hop : o.op = Op.call { callee := Callee.builtin Builtin.append, args := #[s, x], argTypes := #[t, t] })
    (B : Nat) (e : TypeId) (k : IntKind) (bytes : Nat) (hu : P.underlying t = some (.slice e)) (hinfo : (P.info? e).map (fun i => (i.zero, i.size, i.bytes)) = some (some (.int k 0), 1, bytes))
    (ao : Option Addr) (cap n : Nat) (l : List Nat) (hn : n = l.length) (hs : a.eval s = .slice ao n cap) (y gx : Nat)
    (hx : a.eval x = .slice (some ⟨gx, 0, none⟩) 1 1) (hcell : wx.cell? ⟨gx, 0, none⟩ = some (.int k (y : Int)))
    (hown : Own wx B e k ao cap l) (hbytes : (l.length + 1) * bytes ≤ 140737488355328) (hlen : l.length + 1 ≤ maxLen) (hB : B ≤ wx.heap.size)
    (hK : ∀ ao' cap' w', Own w' B e k ao' cap' (l ++ [y]) → Below B wx w' → wx.grownBy w' (Value.slice ao n cap).ownBlock → K (a.put o.dst (.slice ao' (n + 1) cap')) w') :
    if Region.wanted o (yielded ops a.tmps) = true then Oper.wp P o a wx K Q else E := by
  have hw : Region.wanted o (yielded ops a.tmps) = true := by simp [Region.wanted, hg]
  rw [if_pos hw]
  subst hn
  obtain ⟨i, hi, hz0, hz1, hz2⟩ := info_parts hinfo
  have hown' : wx.ownsRow B e 1 (.slice ao l.length cap) l.length (cs k l) := hown
  refine wp_append_own _ s x t hop B e i (.int k 0) 1 bytes hu hi hz0 hz1 hz2 rfl (by decide) _ _ _ hs hown' ⟨gx, 0, none⟩ 1 1 [.int k (y : Int)] hx rfl ?_ ?_ hlen hbytes hB ?_
  · intro j u hj
    match j, hj with
    | 0, hj =>
      simp at hj; subst hj
      simpa [Addr.add] using hcell
    | j + 1, hj => simp at hj
  · intro u hu; simp at hu; subst hu; rfl
  · intro v' w' ho hgr hnil
    have hb : Below B wx w' := (Below.refl B wx).grown hgr hB (fun j hj => (hown'.lt j hj).1)
    have hsh : ∃ ao' cap', v' = .slice ao' (l.length + 1) cap' := by
      rcases ho.2 with ⟨h1, h2⟩ | ⟨g, cap', cur, h1, _⟩
      · omega
      · exact ⟨_, _, h1⟩
    obtain ⟨ao', cap', rfl⟩ := hsh
    refine hK ao' cap' w' ?_ hb hgr
    unfold Own
    rw [cs_append, show cs k [y] = [Value.int k (y : Int)] from rfl]; simpa using ho

/-! Worlds in which one row alone has turned -/
theorem gb_refl (w : World) (row : Option Nat) : w.grownBy w row := World.grownBy.refl w row
theorem gb_set {w wr : World} {g : Nat} (h : w.grownBy wr (some g)) (j : Nat) (v : Value) : w.grownBy (wr.setCell ⟨g, j, none⟩ v) (some g) :=
  ⟨h.os, h.tape, h.output, by simpa using h.size, fun k hk hne => by
    rw [Below.heap_setCell _ _ _ _ (by intro e; exact hne (by rw [e]))]; exact h.block k hk hne⟩
theorem gb_below {B : Nat} {w wr : World} {g : Nat} (h : w.grownBy wr (some g)) (hB : B ≤ w.heap.size) (hg : B ≤ g) : Below B w wr :=
  Below.ofGrown h hB (fun k hk => by cases hk; exact hg)
theorem gb_of_below {w wr : World} {row : Option Nat} (h : Below w.heap.size w wr) : w.grownBy wr row := ⟨h.os, h.tape, h.output, h.size, fun k hk _ => h.block k hk⟩
theorem gb_trans {a b c : World} {row : Option Nat} (h : a.grownBy b row) (k : b.grownBy c row) : a.grownBy c row :=
  ⟨k.os.trans h.os, k.tape.trans h.tape, k.output.trans h.output, Nat.le_trans h.size k.size, fun j hj hne => (k.block j (Nat.lt_of_lt_of_le hj h.size) hne).trans (h.block j hj hne)⟩
/-- what lies elsewhere reads on -/
def Apart (a : Option Addr) (g : Nat) : Prop := ∀ b off, a = some ⟨b, off, none⟩ → b ≠ g
theorem Rd.gb {w w' : World} {k : IntKind} {a : Option Addr} {l : List Nat} {g : Nat} (h : Rd w k a l) (hg : w.grownBy w' (some g)) (hne : Apart a g) : Rd w' k a l := by
  intro j hj
  obtain ⟨b, off, e, hc⟩ := h j hj
  exact ⟨b, off, e, hg.cell hc (by intro e2; exact hne b off e (by simpa using e2))⟩
theorem Own.apart {w : World} {B : Nat} {e : TypeId} {k : IntKind} {a : Option Addr} {cap : Nat} {l : List Nat} {g : Nat} (h : Own w B e k a cap l) (hg : g < B) : Apart a g := by
  intro b off e
  rcases h.shape with ⟨h1, _⟩ | ⟨g', h1, hb, _⟩
  · rw [h1] at e; cases e
  · rw [h1] at e; simp at e; omega
theorem Own.gb {w w' : World} {B : Nat} {e : TypeId} {k : IntKind} {a : Option Addr} {cap : Nat} {l : List Nat} {g : Nat} (h : Own w B e k a cap l) (hg : w.grownBy w' (some g)) (hne : Apart a g) : Own w' B e k a cap l := by
  refine World.ownsRow.kept h hg ?_
  rcases h.shape with ⟨h1, _⟩ | ⟨g', h1, _⟩
  · left; rw [h1]; rfl
  · right; rw [h1]; intro e2; exact hne g' 0 h1 (by simpa [Value.ownBlock] using e2)
end Go.Proofs.YtpgiljibicigeaaGreatDoor

/- Walks: trim, same, great. -/
namespace Go.Proofs.YtpgiljibicigeaaGreatDoor
open Go.RowKit LM

set_option maxHeartbeats 400000 in
theorem trim_any (a : Option Addr) (cap : Nat) (l : List Nat) (w : World) (hl : l.length ≤ 9223372036854775807) (hrd : Rd w .u32 a l) (hcap : l.length ≤ cap) :
    Calls Tryz.prog 133 #[.slice a l.length cap] w fun e w' => e = .returned (.slice a (tr l).length cap) ∧ w = w' := by
  go_enter Tryz.func133, Tryz.ntmps133
  go_wp2
  go_loop [3] (fun i => ∃ k : Nat, k ≤ l.length ∧ tr (l.take k) = tr l ∧ i = .int .i64 k) (fun i => (intOf i).toNat)
  case atStart => exact ⟨l.length, Nat.le_refl _, by rw [List.take_length], rfl⟩
  case round =>
    obtain ⟨k, hk, ht, rfl⟩ := hrel
    have HT := Lib.hid ht; clear ht
    rcases Nat.eq_zero_or_pos k with h0 | h0
    · subst h0
      go_wp2
      go_ret
      have h := HT.out; simp only [List.take_zero, tr] at h
      exact ⟨by rw [← h]; rfl, rfl⟩
    · obtain ⟨m, rfl⟩ : ∃ m, k = m + 1 := ⟨k - 1, by omega⟩
      obtain ⟨b, off, ha, hc⟩ := hrd m (by omega)
      subst ha
      go_wp2
      · have h : (((l[m]?.getD 0 : Nat) : Int) == 0) = true := by assumption
        go_round
        case rel => exact ⟨m, by omega, by rw [tr_step (by omega) (by simpa using h)]; exact HT.out, rfl⟩
        case measure => simp [intOf]
      · have h : (((l[m]?.getD 0 : Nat) : Int) == 0) = false := by assumption
        go_ret
        refine ⟨?_, rfl⟩
        have e := tr_end (l := l) (k := m) (by omega) (by simpa using h)
        have e2 := HT.out
        rw [← e2, e, List.length_take, Nat.min_eq_left (by omega)]; rfl

end Go.Proofs.YtpgiljibicigeaaGreatDoor

/- Walks: great, same, Norm. -/
namespace Go.Proofs.YtpgiljibicigeaaGreatDoor
open Go.RowKit LM

theorem infoU32 : (Tryz.prog.info? 141).map (fun i => (i.zero, i.size, i.bytes)) = some (some (.int .u32 0), 1, 4) := by kernel_rfl
theorem infoU8L : (Tryz.prog.info? 5).map (fun i => (i.zero, i.size, i.bytes)) = some (some (.int .u8 0), 1, 1) := by kernel_rfl
set_option maxHeartbeats 1000000 in
/-- Norm: the plain list of the worth -/
theorem Norm_any (a : Option Addr) (cap : Nat) (l : List Nat) (w : World) (hl : l.length ≤ 35184372088832) (hlo : Lo 4294967296 l) (hrd : Rd w .u32 a l) :
    Calls Tryz.prog 142 #[.slice a l.length cap] w fun e w' => ∃ a' cap', e = .returned (.slice a' (dg 1000000000 (vl 1000000000 l)).length cap') ∧ Own w' w.heap.size 141 .u32 a' cap' (dg 1000000000 (vl 1000000000 l)) ∧ Below w.heap.size w w' := by
  go_enter Tryz.func142, Tryz.ntmps142
  go_wp2_with (at_make; refine wp_make0 _ rfl _ _ 125 rfl w.heap.size 141 .u32 4 Tryz.underlying125 infoU32 _ _ _ (l.length + 1) rfl rfl (by omega) (by omega) (by unfold maxLen; omega) (Nat.le_refl _) ?_)
  intro w1 hown1 hb1
  go_wp2
  go_loopw [3, 4, 13] (fun v3 v4 i wr => ∃ k c : Nat, k ≤ l.length ∧ i = .int .i64 k ∧ Hid (c = ncar l k) ∧ c ≤ 4 ∧ v4 = .int .u64 c ∧ v3 = .slice (some ⟨w.heap.size, 0, none⟩) k (l.length + 1) ∧
     Own wr w.heap.size 141 .u32 (some ⟨w.heap.size, 0, none⟩) (l.length + 1) (nlow l k) ∧ Below w.heap.size w wr) (fun _ _ i _ => l.length - (intOf i).toNat)
  case atStart => exact ⟨0, 0, Nat.zero_le _, rfl, rfl, by omega, rfl, rfl, hown1, hb1⟩
  case round =>
    obtain ⟨k, c, hk, rfl, HC, hc4, rfl, rfl, hown, hbl⟩ := hrel
    by_cases hlt : k < l.length
    · obtain ⟨b, off, x, e1, HX, hx, c1⟩ := (hrd.below hbl).get hlo k hlt
      subst e1
      go_wp2_with (at_builtin; refine wp_pushFits wr rfl _ _ 125 rfl w.heap.size 141 .u32 4 Tryz.underlying125 infoU32 w.heap.size (l.length + 1) k (nlow l k) (by rw [nlow_length]) rfl _ ((x + c) % 1000000000) (by omega) _ rfl hown (by rw [nlow_length]; omega) (hbl.size) ?_)
      intro w2 hown2 hb2
      have hbl2 := hbl.trans hb2
      clear hown hbl hown1 hb1 hb2
      go_wp2
      go_roundw
      case rel => exact ⟨k + 1, (x + c) / 1000000000, by omega, by go_num, by show (x + c) / 1000000000 = ncar l (k + 1); rw [ncar, ← HX.out, ← HC.out], by omega, by go_num, rfl, by rw [nlow, ← HX.out, ← HC.out]; exact hown2, hbl2⟩
      case measure => simp [intOf]; omega
    · obtain rfl : k = l.length := by omega
      go_wp2_with (at_builtin; refine wp_pushFits wr rfl _ _ 125 rfl w.heap.size 141 .u32 4 Tryz.underlying125 infoU32 w.heap.size (l.length + 1) l.length (nlow l l.length) (by rw [nlow_length]) rfl _ c rfl _ rfl hown (by rw [nlow_length]; omega) (hbl.size) ?_)
      intro w2 hown2 hb2
      have hbl2 := hbl.trans hb2
      have hrd2 := hown2.rd
      have hlen2 : (nlow l l.length ++ [c]).length = l.length + 1 := by rw [List.length_append, nlow_length]; rfl
      have ht := trim_any (some ⟨w.heap.size, 0, none⟩) (l.length + 1) _ w2 (by rw [hlen2]; omega) hrd2 (by rw [hlen2]; omega)
      rw [hlen2] at ht
      have htr : tr (nlow l l.length ++ [c]) = dg 1000000000 (vl 1000000000 l) := by rw [HC.out]; exact norm_eq hlo
      rw [htr] at ht
      have ht2 := tr_take (nlow l l.length ++ [c])
      rw [htr] at ht2
      have hle : (dg 1000000000 (vl 1000000000 l)).length ≤ (nlow l l.length ++ [c]).length := by rw [ht2]; simp; omega
      have hown3 := hown2.take _ hle
      rw [← ht2] at hown3
      have HT := Lib.hid ht
      clear ht ht2 htr hle hlen2 hrd2 hown2 hown hb2 hown1 hb1
      go_wp2_with (go_at_call 133; refine HT.out.mono ?_; rintro e w' ⟨rfl, rfl⟩)
      go_ret
      exact ⟨_, _, rfl, hown3, hbl2⟩

theorem pow10_le {k : Nat} (h : k ≤ 8) : 10 ^ k ≤ 100000000 := Nat.le_trans (Nat.pow_le_pow_right (by omega) h) (by decide)

set_option maxHeartbeats 400000 in
theorem tenTo_any (n : Nat) (w : World) (hn : n ≤ 8) :
    Calls Tryz.prog 143 #[.int .i64 n] w fun e w' => ∃ q : Nat, Hid (q = 10 ^ n) ∧ q ≤ 100000000 ∧ e = .returned (.int .u32 q) ∧ w = w' := by
  go_enter Tryz.func143, Tryz.ntmps143
  go_wp2
  go_loop [3, 5] (fun p i => ∃ k q : Nat, k ≤ n ∧ i = .int .i64 k ∧ p = .int .u32 q ∧ Hid (q = 10 ^ k) ∧ q ≤ 100000000) (fun _ i => n - (intOf i).toNat)
  case atStart => exact ⟨0, 1, Nat.zero_le _, rfl, rfl, (rfl : 1 = 10 ^ 0), by omega⟩
  case round =>
    obtain ⟨k, q, hk, rfl, rfl, HQ, hq⟩ := hrel
    by_cases hlt : k < n
    · have h10 : q * 10 ≤ 100000000 := by rw [HQ.out, ← Nat.pow_succ]; exact pow10_le (by omega)
      go_wp2
      go_round
      case rel => exact ⟨k + 1, q * 10, by omega, by go_num, by go_num, (by rw [HQ.out, Nat.pow_succ] : q * 10 = 10 ^ (k + 1)), h10⟩
      case measure => simp [intOf]; omega
    · obtain rfl : k = n := by omega
      go_wp2
      go_ret
      exact ⟨q, HQ, hq, rfl, rfl⟩

set_option maxHeartbeats 400000 in
theorem mayShift_yes (n : Nat) (w : World) (h : n ≤ 30000) :
    Calls Tryz.prog 141 #[.int .i64 n] w fun e w' => e = .returned (.bool true) ∧ w = w' := by
  go_enter Tryz.func141, Tryz.ntmps141
  go_wp2
  go_ret
  exact ⟨ret_bool (by simp; omega), rfl⟩
end Go.Proofs.YtpgiljibicigeaaGreatDoor

/- Walks: cmp.Compare, Cmp, takeOff. -/
namespace Go.Proofs.YtpgiljibicigeaaGreatDoor
open Go.RowKit LM

theorem vl_bound {l : List Nat} (h : Lo 4294967296 l) : vl 1000000000 l < 1000000000 ^ (l.length + 1) := by
  have h1 := nlow_worth l l.length (Nat.le_refl _)
  rw [List.take_length] at h1
  have h2 := vl_lt (Lo_nlow l l.length)
  rw [nlow_length] at h2
  have h3 := ncar_le h l.length
  have h4 : 1000000000 ^ l.length * ncar l l.length ≤ 1000000000 ^ l.length * 4 := Nat.mul_le_mul_left _ h3
  rw [Nat.pow_succ]
  omega
theorem nlen {l : List Nat} (h : Lo 4294967296 l) : (dg 1000000000 (vl 1000000000 l)).length ≤ l.length + 1 := dg_len_of_lt (by omega) (vl_bound h)

end Go.Proofs.YtpgiljibicigeaaGreatDoor

/- Walks: takeOff. -/
namespace Go.Proofs.YtpgiljibicigeaaGreatDoor
open Go.RowKit LM

end Go.Proofs.YtpgiljibicigeaaGreatDoor

/- Walks: Sub, Add. -/
namespace Go.Proofs.YtpgiljibicigeaaGreatDoor
open Go.RowKit LM

end Go.Proofs.YtpgiljibicigeaaGreatDoor

/- Walks: Mul. -/
namespace Go.Proofs.YtpgiljibicigeaaGreatDoor
open Go.RowKit LM

end Go.Proofs.YtpgiljibicigeaaGreatDoor
