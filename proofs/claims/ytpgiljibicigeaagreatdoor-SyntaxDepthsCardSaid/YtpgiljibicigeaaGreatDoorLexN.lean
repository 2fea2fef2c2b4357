/- lex: the closure that lays a text's token. -/
import Derived.Test.YtpgiljibicigeaaGreatDoorLexJs
import Derived.Test.YtpgiljibicigeaaGreatDoorLexMs
import Derived.Deep.RegionHeld3
set_option linter.unusedVariables false
set_option linter.unusedSimpArgs false
namespace Go.Proofs.YtpgiljibicigeaaGreatDoor
open Go.RowKit UM QM LX

/-- the frame, for the blocks below n -/
def FrN (n g : Nat) (w w' : World) : Prop := Below g w w' ∧ ∀ k, k < n → k ≠ g → (∀ cur t f, w.heap[k]? = some (.cells cur t f) → t ≠ 75 ∧ t ≠ 5) → w'.heap[k]? = w.heap[k]?
theorem FrN.trans {n g : Nat} {a b c : World} (h : FrN n g a b) (k : FrN n g b c) : FrN n g a c := by
  refine ⟨h.1.trans k.1, fun j hj hne ht => ?_⟩
  have e := h.2 j hj hne ht
  exact (k.2 j hj hne (fun cur t f hc => ht cur t f (by rw [← e]; exact hc))).trans e
theorem Fr.n {n g : Nat} {w w' : World} (h : Fr g w w') (hn : n ≤ w.heap.size) : FrN n g w w' := ⟨h.1, fun k hk => h.2 k (Nat.lt_of_lt_of_le hk hn)⟩
theorem FrN.below {n g : Nat} {w w' : World} (h : Below n w w') (hg : g ≤ n) : FrN n g w w' := ⟨h.mono hg, fun k hk _ _ => h.block k hk⟩
theorem LBX.belowB {w w' : World} {g : Nat} {s : ByteArray} {p : Nat} {T : List Tk} {op : List Nat} {m : Nat} {a1 : Option Addr} {k1 : Nat} {a2 : Option Addr} {k2 : Nat} {B : Nat} (h : LBX w g s p T op m a1 k1 a2 k2) (hb : Below B w w') (hg : g < B) (h1 : ∀ b, a1 = some ⟨b, 0, none⟩ → b < B) (h2 : ∀ b, a2 = some ⟨b, 0, none⟩ → b < B) : LBX w' g s p T op m a1 k1 a2 k2 := by
  have key : ∀ (j : Nat) (v : Value), w.cell? ⟨g, j, none⟩ = some v → w'.cell? ⟨g, j, none⟩ = some v := fun j v e => by rw [hb.cell (p := ⟨g, j, none⟩) hg]; exact e
  have own : ∀ {e : TypeId} {z : Nat} {a : Option Addr} {n c : Nat} {xs : List Value}, OwnV w (g + 1) e z a n c xs → (∀ b, a = some ⟨b, 0, none⟩ → b < B) → OwnV w' (g + 1) e z a n c xs := by
    intro e z a n c xs h ha
    rcases h.shape with ⟨rfl, rfl, rfl, rfl⟩ | ⟨g', cur, rfl, hb', hh, hc, hm⟩
    · exact OwnV.nil _ _ _ _
    · have hB := ha g' rfl
      obtain ⟨h1, h2⟩ := h
      rcases h2 with ⟨h3, _⟩ | ⟨g2, cap2, cur2, h3, h4, h5, h6⟩
      · cases h3
      · cases h3
        exact ⟨h1, .inr ⟨_, _, cur2, rfl, h4, by rw [hb.block _ hB]; exact h5, h6⟩⟩
  exact ⟨key _ _ h.c0, key _ _ h.c1, key _ _ h.c2, key _ _ h.c3, key _ _ h.c4, fun j => (hb.frozen (p := ⟨g, j, none⟩) hg).trans (h.fz j), own h.ot h1, own h.oo h2, h.pl⟩
def u8s (l : List Nat) : List UInt8 := l.map UInt8.ofNat
/-- what the closure leaves -/
def ResLay (B bl g : Nat) (s : ByteArray) (p : Nat) (T : List Tk) (op : List Nat) (m : Nat) (w : World) (e : Ending) (w' : World) : Prop := e = .returned (.tuple #[]) ∧ LB w' g s p T op m ∧ FrN B g w w' ∧ w'.cell? ⟨bl, 0, none⟩ = some (.pointer (some ⟨g, 0, none⟩))
set_option maxRecDepth 100000 in
set_option maxHeartbeats 4000000 in
theorem lxLay_no (B pb fb sb : Nat) (g : Nat) (s : ByteArray) (p first : Nat) (T : List Tk) (op : List Nat) (m : Nat) (w : World) (h : LB w g s p T op m) (hp : w.cell? ⟨pb, 0, none⟩ = some (.pointer (some ⟨g, 0, none⟩))) (hf : w.cell? ⟨fb, 0, none⟩ = some (.int .i64 (first : Int))) (hlt : ¬ first < p) :
    Calls Tryz.prog 44 #[.pointer (some ⟨pb, 0, none⟩), .pointer (some ⟨fb, 0, none⟩), .pointer (some ⟨sb, 0, none⟩)] w (ResLay B pb g s p T op m w) := by
  have H := Lib.hid h
  obtain ⟨_, c1, _, _, _⟩ := h.cells
  have hlt' : ¬ (first : Int) < (p : Int) := by omega
  have HPB := Lib.hid hp
  clear h hlt
  go_enter Tryz.func44, Tryz.ntmps44
  go_wp2_with fail
  go_quiet (fail)
  go_wp2
  refine bodyPost_end (v := .tuple #[]) (by simp [results, Tryz.results44, go_sem]) rfl ?_
  exact ⟨rfl, H.out.dN _, ⟨bdN (Below.refl _ _) _, fun _ _ _ _ => rfl⟩, HPB.out⟩
def Typ (w : World) (b : Nat) : Prop := ∀ cur t f, w.heap[b]? = some (.cells cur t f) → t ≠ 75 ∧ t ≠ 5
theorem Typ.of {w w' : World} {b : Nat} (h : Typ w b) (e : w'.heap[b]? = w.heap[b]?) : Typ w' b := fun cur t f hc => h cur t f (by rw [← e]; exact hc)
theorem Typ.ne {w : World} {b B z n c : Nat} {a : Option Addr} {xs : List Value} (h : Typ w b) (ho : OwnV w B 75 z a n c xs) : a ≠ some ⟨b, 0, none⟩ := by
  rcases ho.shape with ⟨h1, _⟩ | ⟨g', cur, h1, _, hh, _⟩
  · rw [h1]; simp
  · rw [h1]
    intro h2
    simp only [Option.some.injEq, Addr.mk.injEq, and_true] at h2
    subst h2
    exact (h _ _ _ hh).1 rfl
/-- behind the append: the box of l, and the lexer's -/
theorem lay_at {B pb g : Nat} {s : ByteArray} {p : Nat} {T : List Tk} {op : List Nat} {m : Nat} {w w1 w2 : World} {a1 : Option Addr} {k1 : Nat} {a2 : Option Addr} {k2 : Nat} {arr : Array Value} (hpB : pb < B) (hpt : Typ w pb) (hp : w.cell? ⟨pb, 0, none⟩ = some (.pointer (some ⟨g, 0, none⟩))) (hb : Below B w w1) (h1 : LBX w1 g s p T op m a1 k1 a2 k2) (e2 : Below (g + 1) (w1.alloc (.cells arr 75)) w2) (e3 : Oth (w1.alloc (.cells arr 75)) w2 a1) :
    w2.cell? ⟨pb, 0, none⟩ = some (.pointer (some ⟨g, 0, none⟩)) ∧ w2.cell? ⟨g, 2, none⟩ = some (.slice a1 T.length k1) ∧ w2.frozen? ⟨g, 2, none⟩ = false := by
  have hp1 : w1.cell? ⟨pb, 0, none⟩ = some (.pointer (some ⟨g, 0, none⟩)) := by rw [hb.cell hpB]; exact hp
  have hlt := lt_of_cell hp1
  refine ⟨?_, ?_, ?_⟩
  · rw [cellOfBlock (e3.2 pb (by simp at hlt ⊢; omega) ((hpt.of (hb.block pb hpB)).ne h1.ot)) 0]
    exact (cell_old hlt).trans hp1
  · rw [e2.cell (Nat.lt_succ_self g)]; exact (cell_old h1.lt).trans h1.c2
  · rw [e2.frozen (p := ⟨g, 2, none⟩) (Nat.lt_succ_self g)]; exact (frz_old h1.lt).trans (h1.fz 2)
theorem lay_fb {B fb g first : Nat} {s : ByteArray} {p : Nat} {T : List Tk} {op : List Nat} {m : Nat} {w w1 w2 : World} {a1 : Option Addr} {k1 : Nat} {a2 : Option Addr} {k2 : Nat} {arr : Array Value} (hpB : fb < B) (hpt : Typ w fb) (hp : w.cell? ⟨fb, 0, none⟩ = some (.int .i64 (first : Int))) (hb : Below B w w1) (h1 : LBX w1 g s p T op m a1 k1 a2 k2) (e3 : Oth (w1.alloc (.cells arr 75)) w2 a1) :
    w2.cell? ⟨fb, 0, none⟩ = some (.int .i64 (first : Int)) := by
  have hp1 : w1.cell? ⟨fb, 0, none⟩ = some (.int .i64 (first : Int)) := by rw [hb.cell hpB]; exact hp
  have hlt := lt_of_cell hp1
  rw [cellOfBlock (e3.2 fb (by simp at hlt ⊢; omega) ((hpt.of (hb.block fb hpB)).ne h1.ot)) 0]
  exact (cell_old hlt).trans hp1
theorem lay_fin {B pb g first : Nat} {said : List Nat} {s : ByteArray} {p : Nat} {T : List Tk} {op : List Nat} {m : Nat} {w w1 w2 : World} {a1 a3 : Option Addr} {k1 c3 : Nat} {a2 : Option Addr} {k2 : Nat} {arr : Array Value} (hgB : g < B) (hpg : pb ≠ g) (hBw : B ≤ w.heap.size) (hpB : pb < B) (hpt : Typ w pb) (hp : w.cell? ⟨pb, 0, none⟩ = some (.pointer (some ⟨g, 0, none⟩))) (hb : Below B w w1) (h1 : LBX w1 g s p T op m a1 k1 a2 k2) (e1 : OwnV w2 (g + 1) 75 3 a3 (T.length + 1) c3 (tkc T ++ [.int .i64 8, .string ⟨(u8s said).toArray⟩, .int .i64 (first : Int)])) (e2 : Below (g + 1) (w1.alloc (.cells arr 75)) w2) (e3 : Oth (w1.alloc (.cells arr 75)) w2 a1) :
    ResLay B pb g s p (T ++ [(8, said, first)]) op m w (.returned (.tuple #[])) (w2.setCell ⟨g, 2, none⟩ (.slice a3 (T.length + 1) c3)) := by
  have hbA : Below w1.heap.size w1 (w1.alloc (.cells arr 75)) := (Below.refl _ _).alloc (Nat.le_refl _) _
  have hl2 : (T ++ [(8, said, first)]).length = T.length + 1 := by simp
  have e4 : OwnV w2 (g + 1) 75 3 a3 (T ++ [(8, said, first)]).length c3 (tkc (T ++ [(8, said, first)])) := by
    rw [tkc_snoc, hl2]; exact e1
  have HY := (h1.below hbA).putT e2 e3 e4
  rw [hl2] at HY
  have hg1 := h1.lt
  have hg2 : g < w2.heap.size := lt_of_cell (lay_at hpB hpt hp hb h1 e2 e3).2.1
  have hF1 : Fr g w1 w2 := (Fr.below hbA (Nat.le_of_lt hg1)).trans (Fr.oth (own_alloc h1.ot _) (.inl rfl) e2 e3)
  have hF2 : Fr g w1 (w2.setCell ⟨g, 2, none⟩ (.slice a3 (T.length + 1) c3)) := hF1.trans (Fr.gb (gb_set (gb_refl _ _) _ _) (Nat.le_of_lt hg2))
  have hG : FrN B g w (w2.setCell ⟨g, 2, none⟩ (.slice a3 (T.length + 1) c3)) := (FrN.below hb (Nat.le_of_lt hgB)).trans (hF2.n (Nat.le_trans hBw hb.size))
  refine ⟨rfl, ⟨a3, c3, a2, k2, HY⟩, hG, ?_⟩
  rw [cellOfBlock (hG.2 pb hpB hpg hpt)]
  exact hp
set_option maxRecDepth 100000 in
set_option maxHeartbeats 4000000 in
theorem lxLay_yes (B pb fb sb : Nat) (g : Nat) (s : ByteArray) (p first : Nat) (T : List Tk) (op : List Nat) (m : Nat) (w : World) (a1 : Option Addr) (k1 : Nat) (a2 : Option Addr) (k2 : Nat) (h : LBX w g s p T op m a1 k1 a2 k2) (hT : T.length ≤ 1000000) (hp : w.cell? ⟨pb, 0, none⟩ = some (.pointer (some ⟨g, 0, none⟩))) (hf : w.cell? ⟨fb, 0, none⟩ = some (.int .i64 (first : Int))) (hlt : first < p)
    (hgB : g < B) (hpg : pb ≠ g) (hpt : Typ w pb) (hft : Typ w fb) (hfg : fb ≠ g) (hpB : pb < B) (hfB : fb < B) (h1 : ∀ b, a1 = some ⟨b, 0, none⟩ → b < B) (h2 : ∀ b, a2 = some ⟨b, 0, none⟩ → b < B) (said : List Nat) (hs : Lib.IsBuilder 83 5 B sb (Lib.byteCells (u8s said)) w) (hBw : B ≤ w.heap.size) :
    Calls Tryz.prog 44 #[.pointer (some ⟨pb, 0, none⟩), .pointer (some ⟨fb, 0, none⟩), .pointer (some ⟨sb, 0, none⟩)] w (ResLay B pb g s p (T ++ [(8, said, first)]) op m w) := by
  have HX := Lib.hid h
  have c1 := h.c1; have c2 := h.c2
  have hlt' : (first : Int) < (p : Int) := by omega
  have HS := Lib.hid (fun n => Tryz.Builder_String_any B sb (u8s said) (w.drewN n) hs hBw)
  have HK := Lib.hid (fun W (hb : Below B w W) => h.belowB hb hgB h1 h2)
  have HPB := Lib.hid hp; have HFB := Lib.hid hf; have HPT := Lib.hid hpt; have HFT := Lib.hid hft
  have n1 : ¬ g = pb := fun e => hpg e.symm
  have n2 : ¬ g = fb := fun e => hfg e.symm
  have n3 : ¬ pb = g := hpg
  have n4 : ¬ fb = g := hfg
  clear h hlt h1 h2 hs hpt hft
  go_enter Tryz.func44, Tryz.ntmps44
  go_wp2_with fail
  go_quiet (fail)
  go_wp2_with fail
  refine wp_region_noPanic ?_
  refine wp_region_held_drew (S := fun w' => w'.cell? ⟨pb, 0, none⟩ = some (.pointer (some ⟨g, 0, none⟩)) ∧ w'.cell? ⟨fb, 0, none⟩ = some (.int .i64 (first : Int))) rfl (by go_keep) (fun hS => ?_)
  refine wpAnyH_take (i := 0) (v := (.pointer (some ⟨g, 0, none⟩))) rfl (by decide +kernel) (by decide +kernel) (by decide +kernel) (fun _ _ _ h => False.elim h) (.inl ⟨by rfl, fun w' hSw => by obtain ⟨q1, q2⟩ := hSw; go_simp⟩) hS ?_
  refine wpAnyH_take (i := 1) (v := (.pointer (some ⟨g, 0, none⟩))) rfl (by decide +kernel) (by decide +kernel) (by decide +kernel) (fun _ _ _ h => False.elim h) (.inl ⟨by rfl, fun w' hSw => by obtain ⟨q1, q2⟩ := hSw; go_simp⟩) hS ?_
  refine wpAnyH_take (i := 2) (v := (.pointer (some ⟨g, 0, none⟩))) rfl (by decide +kernel) (by decide +kernel) (by decide +kernel) (fun _ _ _ h => False.elim h) (.inl ⟨by rfl, fun w' hSw => by obtain ⟨q1, q2⟩ := hSw; go_simp⟩) hS ?_
  refine wpAnyH_take (i := 3) (v := (.pointer (some ⟨g, 2, none⟩))) rfl (by decide +kernel) (by decide +kernel) (by decide +kernel) (fun _ _ _ h => False.elim h) (.inl ⟨by rfl, fun w' hSw => by obtain ⟨q1, q2⟩ := hSw; go_simp⟩) hS ?_
  refine wpAnyH_take (i := 6) (v := (.int .i64 (first : Int))) rfl (by decide +kernel) (by decide +kernel) (by decide +kernel) (fun _ _ _ h => False.elim h) (.inl ⟨by rfl, fun w' hSw => by obtain ⟨q1, q2⟩ := hSw; go_simp⟩) hS ?_
  refine wpAnyH_ready (rs := [4, 5]) (by decide +kernel) (by simp) ?_
  refine AllReadyH.cons (o := _) rfl (fun K hK => ?_) ?_
  · have c2' := c2
    rw [if_pos (by rfl)]
    go_simp
    refine hK.out _ _ (by go_keep) (fun hS => ?_)
    refine wpAnyH_ready (rs := [5]) (by decide +kernel) (by simp) ?_
    refine AllReadyH.cons (o := _) rfl (fun K hK => ?_) AllReadyH.nil
    (go_simp; go_at_call 45; refine (HS.out (nq + 1)).mono ?_; rintro e w1 ⟨rfl, hb9⟩; have hb0 : Below B w w1 := ⟨hb9.os, hb9.tape, hb9.output, hb9.size, hb9.block⟩; clear hb9; have HX1 := Lib.hid (HK.out w1 hb0); have x1 : w1.cell? ⟨g, 1, none⟩ = some (.int .i64 (p : Int)) := HX1.out.c1; have x2 : w1.cell? ⟨g, 2, none⟩ = some (.slice a1 T.length k1) := HX1.out.c2; have xp : w1.cell? ⟨pb, 0, none⟩ = some (.pointer (some ⟨g, 0, none⟩)) := (by rw [hb0.cell hpB]; exact HPB.out); have xf : w1.cell? ⟨fb, 0, none⟩ = some (.int .i64 (first : Int)) := (by rw [hb0.cell hfB]; exact HFB.out); have y2 : (w1.alloc (.cells #[.int .i64 8, .string ⟨(u8s said).toArray⟩, .int .i64 (first : Int)] 75)).cell? ⟨g, 2, none⟩ = some (.slice a1 T.length k1) := ((cell_old HX1.out.lt).trans x2); have yf : (w1.alloc (.cells #[.int .i64 8, .string ⟨(u8s said).toArray⟩, .int .i64 (first : Int)] 75)).cell? ⟨fb, 0, none⟩ = some (.int .i64 (first : Int)) := ((cell_old (lt_of_cell xf)).trans xf); have yp : (w1.alloc (.cells #[.int .i64 8, .string ⟨(u8s said).toArray⟩, .int .i64 (first : Int)] 75)).cell? ⟨pb, 0, none⟩ = some (.pointer (some ⟨g, 0, none⟩)) := ((cell_old (lt_of_cell xp)).trans xp))
    refine hK.out _ _ ⟨xp, xf⟩ (fun hS => ?_)
    refine wpAnyH_take (i := 7) (v := (.agg #[.int .i64 8, .string ⟨(u8s said).toArray⟩, .int .i64 (first : Int)])) rfl (by decide +kernel) (by decide +kernel) (by decide +kernel) (fun _ _ _ h => False.elim h) (.inl ⟨by rfl, fun w' hSw => by obtain ⟨q1, q2⟩ := hSw; go_simp⟩) hS ?_
    refine wpAnyH_ready (rs := [8]) (by decide +kernel) (by simp) ?_
    refine AllReadyH.cons (o := _) rfl (fun K hK => ?_) AllReadyH.nil
    rw [if_pos (by rfl)]
    go_simp
    refine hK.out _ _ ⟨yp, yf⟩ (fun hS => ?_)
    refine wpAnyH_ready (rs := [9]) (by decide +kernel) (by simp) ?_
    refine AllReadyH.cons (o := _) rfl (fun K hK => ?_) AllReadyH.nil
    refine step_row _ rfl _ _ 39 rfl (g + 1) 75 _ 3 32 Tryz.underlying39 infoTok rfl (by decide) a1 k1 T.length (tkc T) rfl [.int .i64 8, .string ⟨(u8s said).toArray⟩, .int .i64 (first : Int)] rfl (by intro u hu; simp at hu; rcases hu with rfl | rfl | rfl <;> rfl) w1.heap.size 1 rfl (by intro j u hj; rcases j with _ | _ | _ | j <;> simp at hj <;> subst hj <;> simp) (own_alloc HX1.out.ot _) (by omega) (by unfold maxLen; omega) (by have := HX1.out.lt; simp; omega) ?_
    intro a3 c3 w2 e1 e2 e3
    obtain ⟨dp, d2, f2⟩ := lay_at hpB HPT.out HPB.out hb0 HX1.out e2 e3
    have df := lay_fb hfB HFT.out HFB.out hb0 HX1.out e3
    refine hK.out _ _ ⟨dp, df⟩ (fun hS => ?_)
    refine wpAnyH_take (i := 10) (v := (.pointer (some ⟨g, 0, none⟩))) rfl (by decide +kernel) (by decide +kernel) (by decide +kernel) (fun _ _ _ h => False.elim h) (.inl ⟨by rfl, fun w' hSw => by obtain ⟨q1, q2⟩ := hSw; go_simp⟩) hS ?_
    refine wpAnyH_take (i := 11) (v := (.pointer (some ⟨g, 2, none⟩))) rfl (by decide +kernel) (by decide +kernel) (by decide +kernel) (fun _ _ _ h => False.elim h) (.inl ⟨by rfl, fun w' hSw => by obtain ⟨q1, q2⟩ := hSw; go_simp⟩) hS ?_
    refine wpAnyH_ready (rs := [12]) (by decide +kernel) (by simp) ?_
    refine AllReadyH.cons (o := _) rfl (fun K hK => ?_) AllReadyH.nil
    rw [if_pos (by rfl)]
    go_simp
    refine hK.out _ _ (by go_keep) (fun hS => ?_)
    refine wpAnyH_done (by decide +kernel) ?_ _
    refine NoPanic.normal ?_
    have HFI := Lib.hid (lay_fin hgB hpg hBw hpB HPT.out HPB.out hb0 HX1.out e1 e2 e3)
    clear e1 e2 e3
    go_wp2
    refine bodyPost_end (v := .tuple #[]) (by simp [results, Tryz.results44, go_sem]) rfl ?_
    exact HFI.out
  refine AllReadyH.cons (o := _) rfl (fun K hK => ?_) AllReadyH.nil
  (go_simp; go_at_call 45; refine (HS.out (nq + 1)).mono ?_; rintro e w1 ⟨rfl, hb9⟩; have hb0 : Below B w w1 := ⟨hb9.os, hb9.tape, hb9.output, hb9.size, hb9.block⟩; clear hb9; have HX1 := Lib.hid (HK.out w1 hb0); have x1 : w1.cell? ⟨g, 1, none⟩ = some (.int .i64 (p : Int)) := HX1.out.c1; have x2 : w1.cell? ⟨g, 2, none⟩ = some (.slice a1 T.length k1) := HX1.out.c2; have xp : w1.cell? ⟨pb, 0, none⟩ = some (.pointer (some ⟨g, 0, none⟩)) := (by rw [hb0.cell hpB]; exact HPB.out); have xf : w1.cell? ⟨fb, 0, none⟩ = some (.int .i64 (first : Int)) := (by rw [hb0.cell hfB]; exact HFB.out); have y2 : (w1.alloc (.cells #[.int .i64 8, .string ⟨(u8s said).toArray⟩, .int .i64 (first : Int)] 75)).cell? ⟨g, 2, none⟩ = some (.slice a1 T.length k1) := ((cell_old HX1.out.lt).trans x2); have yf : (w1.alloc (.cells #[.int .i64 8, .string ⟨(u8s said).toArray⟩, .int .i64 (first : Int)] 75)).cell? ⟨fb, 0, none⟩ = some (.int .i64 (first : Int)) := ((cell_old (lt_of_cell xf)).trans xf); have yp : (w1.alloc (.cells #[.int .i64 8, .string ⟨(u8s said).toArray⟩, .int .i64 (first : Int)] 75)).cell? ⟨pb, 0, none⟩ = some (.pointer (some ⟨g, 0, none⟩)) := ((cell_old (lt_of_cell xp)).trans xp))
  refine hK.out _ _ ⟨xp, xf⟩ (fun hS => ?_)
  refine wpAnyH_take (i := 7) (v := (.agg #[.int .i64 8, .string ⟨(u8s said).toArray⟩, .int .i64 (first : Int)])) rfl (by decide +kernel) (by decide +kernel) (by decide +kernel) (fun _ _ _ h => False.elim h) (.inl ⟨by rfl, fun w' hSw => by obtain ⟨q1, q2⟩ := hSw; go_simp⟩) hS ?_
  refine wpAnyH_ready (rs := [4, 8]) (by decide +kernel) (by simp) ?_
  refine AllReadyH.cons (o := _) rfl (fun K hK => ?_) ?_
  · have c2' := x2
    rw [if_pos (by rfl)]
    go_simp
    refine hK.out _ _ ⟨xp, xf⟩ (fun hS => ?_)
    refine wpAnyH_ready (rs := [8]) (by decide +kernel) (by simp) ?_
    refine AllReadyH.cons (o := _) rfl (fun K hK => ?_) AllReadyH.nil
    rw [if_pos (by rfl)]
    go_simp
    refine hK.out _ _ ⟨yp, yf⟩ (fun hS => ?_)
    refine wpAnyH_ready (rs := [9]) (by decide +kernel) (by simp) ?_
    refine AllReadyH.cons (o := _) rfl (fun K hK => ?_) AllReadyH.nil
    refine step_row _ rfl _ _ 39 rfl (g + 1) 75 _ 3 32 Tryz.underlying39 infoTok rfl (by decide) a1 k1 T.length (tkc T) rfl [.int .i64 8, .string ⟨(u8s said).toArray⟩, .int .i64 (first : Int)] rfl (by intro u hu; simp at hu; rcases hu with rfl | rfl | rfl <;> rfl) w1.heap.size 1 rfl (by intro j u hj; rcases j with _ | _ | _ | j <;> simp at hj <;> subst hj <;> simp) (own_alloc HX1.out.ot _) (by omega) (by unfold maxLen; omega) (by have := HX1.out.lt; simp; omega) ?_
    intro a3 c3 w2 e1 e2 e3
    obtain ⟨dp, d2, f2⟩ := lay_at hpB HPT.out HPB.out hb0 HX1.out e2 e3
    have df := lay_fb hfB HFT.out HFB.out hb0 HX1.out e3
    refine hK.out _ _ ⟨dp, df⟩ (fun hS => ?_)
    refine wpAnyH_take (i := 10) (v := (.pointer (some ⟨g, 0, none⟩))) rfl (by decide +kernel) (by decide +kernel) (by decide +kernel) (fun _ _ _ h => False.elim h) (.inl ⟨by rfl, fun w' hSw => by obtain ⟨q1, q2⟩ := hSw; go_simp⟩) hS ?_
    refine wpAnyH_take (i := 11) (v := (.pointer (some ⟨g, 2, none⟩))) rfl (by decide +kernel) (by decide +kernel) (by decide +kernel) (fun _ _ _ h => False.elim h) (.inl ⟨by rfl, fun w' hSw => by obtain ⟨q1, q2⟩ := hSw; go_simp⟩) hS ?_
    refine wpAnyH_ready (rs := [12]) (by decide +kernel) (by simp) ?_
    refine AllReadyH.cons (o := _) rfl (fun K hK => ?_) AllReadyH.nil
    rw [if_pos (by rfl)]
    go_simp
    refine hK.out _ _ (by go_keep) (fun hS => ?_)
    refine wpAnyH_done (by decide +kernel) ?_ _
    refine NoPanic.normal ?_
    have HFI := Lib.hid (lay_fin hgB hpg hBw hpB HPT.out HPB.out hb0 HX1.out e1 e2 e3)
    clear e1 e2 e3
    go_wp2
    refine bodyPost_end (v := .tuple #[]) (by simp [results, Tryz.results44, go_sem]) rfl ?_
    exact HFI.out
  refine AllReadyH.cons (o := _) rfl (fun K hK => ?_) AllReadyH.nil
  rw [if_pos (by rfl)]
  go_simp
  refine hK.out _ _ ⟨yp, yf⟩ (fun hS => ?_)
  refine wpAnyH_ready (rs := [4]) (by decide +kernel) (by simp) ?_
  refine AllReadyH.cons (o := _) rfl (fun K hK => ?_) AllReadyH.nil
  have c2' := y2
  rw [if_pos (by rfl)]
  go_simp
  refine hK.out _ _ ⟨yp, yf⟩ (fun hS => ?_)
  refine wpAnyH_ready (rs := [9]) (by decide +kernel) (by simp) ?_
  refine AllReadyH.cons (o := _) rfl (fun K hK => ?_) AllReadyH.nil
  refine step_row _ rfl _ _ 39 rfl (g + 1) 75 _ 3 32 Tryz.underlying39 infoTok rfl (by decide) a1 k1 T.length (tkc T) rfl [.int .i64 8, .string ⟨(u8s said).toArray⟩, .int .i64 (first : Int)] rfl (by intro u hu; simp at hu; rcases hu with rfl | rfl | rfl <;> rfl) w1.heap.size 1 rfl (by intro j u hj; rcases j with _ | _ | _ | j <;> simp at hj <;> subst hj <;> simp) (own_alloc HX1.out.ot _) (by omega) (by unfold maxLen; omega) (by have := HX1.out.lt; simp; omega) ?_
  intro a3 c3 w2 e1 e2 e3
  obtain ⟨dp, d2, f2⟩ := lay_at hpB HPT.out HPB.out hb0 HX1.out e2 e3
  have df := lay_fb hfB HFT.out HFB.out hb0 HX1.out e3
  refine hK.out _ _ ⟨dp, df⟩ (fun hS => ?_)
  refine wpAnyH_take (i := 10) (v := (.pointer (some ⟨g, 0, none⟩))) rfl (by decide +kernel) (by decide +kernel) (by decide +kernel) (fun _ _ _ h => False.elim h) (.inl ⟨by rfl, fun w' hSw => by obtain ⟨q1, q2⟩ := hSw; go_simp⟩) hS ?_
  refine wpAnyH_take (i := 11) (v := (.pointer (some ⟨g, 2, none⟩))) rfl (by decide +kernel) (by decide +kernel) (by decide +kernel) (fun _ _ _ h => False.elim h) (.inl ⟨by rfl, fun w' hSw => by obtain ⟨q1, q2⟩ := hSw; go_simp⟩) hS ?_
  refine wpAnyH_ready (rs := [12]) (by decide +kernel) (by simp) ?_
  refine AllReadyH.cons (o := _) rfl (fun K hK => ?_) AllReadyH.nil
  rw [if_pos (by rfl)]
  go_simp
  refine hK.out _ _ (by go_keep) (fun hS => ?_)
  refine wpAnyH_done (by decide +kernel) ?_ _
  refine NoPanic.normal ?_
  have HFI := Lib.hid (lay_fin hgB hpg hBw hpB HPT.out HPB.out hb0 HX1.out e1 e2 e3)
  clear e1 e2 e3
  go_wp2
  refine bodyPost_end (v := .tuple #[]) (by simp [results, Tryz.results44, go_sem]) rfl ?_
  exact HFI.out
end Go.Proofs.YtpgiljibicigeaaGreatDoor
