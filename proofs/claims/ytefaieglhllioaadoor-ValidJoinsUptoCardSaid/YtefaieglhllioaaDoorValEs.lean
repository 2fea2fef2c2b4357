/- valid's reader: closed, opened, quoted walked. -/
import Derived.Test.YtefaieglhllioaaDoorValAs
import Derived.Test.YtefaieglhllioaaDoorValQs
import Derived.StillTailTactics
namespace Go.Proofs.YtefaieglhllioaaDoor
open Go.RowKit UM QM VM

/-- what a turn tells: 8 is 7, and the flag -/
def ResTu (g : Nat) (a : Option Addr) (cap : Nat) (l : List Nat) (m : Nat) (r : Nat × Nat × List Bool) (w : World) (e : Ending) (w' : World) : Prop :=
  e = .returned (.int .i64 ((if r.1 = 8 then 7 else r.1 : Nat) : Int)) ∧ VB w' g a cap l m r.2.1 r.2.2 (decide (r.1 = 8)) ∧ w.grownBy w' (some g)
theorem fol_ne (s : List Bool) : fol s ≠ 8 := by have := fol_cases s; omega
set_option maxRecDepth 100000 in
set_option maxHeartbeats 2000000 in
theorem closed_any (g : Nat) (a : Option Addr) (cap : Nat) (l : List Nat) (m k : Nat) (s : List Bool) (w : World) (h : VB w g a cap l m k s false) (hs : s ≠ []) :
    Calls Tryd.prog 20 #[.pointer (some ⟨g, 0, none⟩)] w (ResTu g a cap l m (fol s.dropLast, k, s.dropLast) w) := by
  have HP := Lib.hid (bpop_any g a cap l m k s false w h hs)
  have HF := Lib.hid (fun W (r : VB W g a cap l m k s.dropLast false) => follows_any g a cap l m k s.dropLast false W r)
  have hne := fol_ne s.dropLast
  unfold ResTu
  simp only [hne, if_false, decide_false]
  clear h hs hne
  generalize fol s.dropLast = q at *
  generalize s.dropLast = s' at *
  go_enter Tryd.func20, Tryd.ntmps20
  go_wp2_with fail
  refine HP.out.mono ?_
  rintro e w1 ⟨rfl, hb, hg⟩
  have H1 := Lib.hid hb; have G1 := Lib.hid hg
  clear hb hg
  go_wp2_with fail
  refine (HF.out _ H1.out).mono ?_
  rintro e w2 ⟨rfl, rfl⟩
  go_wp2
  go_ret
  exact ⟨rfl, H1.out, G1.out⟩
set_option maxRecDepth 100000 in
set_option maxHeartbeats 2000000 in
theorem opened_any (b : Bool) (g : Nat) (a : Option Addr) (cap : Nat) (l : List Nat) (m k : Nat) (s : List Bool) (w : World) (h : VB w g a cap l m k s false) (hk : k < l.length) :
    Calls Tryd.prog 27 #[.pointer (some ⟨g, 0, none⟩), .bool b] w (ResTu g a cap l m (if m ≤ s.length then (8, k, s) else (if b = true then 3 else 1, k + 1, s ++ [b])) w) := by
  have HB := Lib.hid h
  obtain ⟨c0, c1, c6, c7, c8, hf⟩ := h.cells
  obtain ⟨_, hl, _, hs2, hm⟩ := h.facts
  clear h c0
  by_cases hms : m ≤ s.length
  · rw [if_pos hms]
    have h1 : (m : Int) ≤ (s.length : Int) := by omega
    clear hms c1
    generalize s.length = n at *
    go_enter Tryd.func27, Tryd.ntmps27
    go_wp2_with fail
    go_quiet (fail)
    go_wp2
    go_ret
    exact ⟨rfl, (HB.out.dN _).deep true, gb_set (gb_dN (gb_refl _ _) _) _ _⟩
  · rw [if_neg hms]
    have h1 : ¬ (m : Int) ≤ (s.length : Int) := by omega
    have HP := Lib.hid (fun W r => push_any b g a cap l m (k + 1) s false W r (by omega))
    unfold ResV0 at HP
    clear hms c8
    generalize s.length = n at *
    cases b
    all_goals
      go_enter Tryd.func27, Tryd.ntmps27
      go_wp2_with fail
      go_quiet (fail)
      go_wp2_with fail
      refine (HP.out _ ((HB.out.dN _).put (k + 1) (by omega) (by omega))).mono ?_
      rintro e w2 ⟨rfl, hb, hg⟩
      have H1 := Lib.hid hb; have G1 := Lib.hid (gb_trans (gb_set (gb_dN (gb_refl w (some g)) _) 1 _) hg)
      clear hb hg
      go_wp2
      go_ret
      exact ⟨rfl, H1.out, G1.out⟩
end Go.Proofs.YtefaieglhllioaaDoor

/- valid's reader: a text in quotes walked. -/
namespace Go.Proofs.YtefaieglhllioaaDoor
open Go.RowKit UM QM VM

theorem Rd.dropV {w : World} {k : IntKind} {b off : Nat} {l : List Nat} (h : Rd w k (some ⟨b, off, none⟩) l) (n : Nat) : Rd w k (some ⟨b, off + n, none⟩) (l.drop n) := by
  refine Rd.mk fun j hj => ?_
  obtain ⟨b', off', e, hc⟩ := h (n + j) (by simp at hj; omega)
  simp only [Option.some.injEq, Addr.mk.injEq, and_true] at e
  obtain ⟨rfl, rfl⟩ := e
  rw [show off + n + j = off + (n + j) by omega, hc]; simp
theorem lo_dropV {l : List Nat} (h : LM.Lo 256 l) (n : Nat) : LM.Lo 256 (l.drop n) := fun x hx => h x (List.mem_of_mem_drop hx)
/-- Read of what is left -/
def ResRq (l : List Nat) (w : World) (e : Ending) (w' : World) : Prop := ∃ t : ByteArray, e = .returned (.tuple #[.string t, .int .i64 ((rdO l).1 : Nat), .int .i64 ((rdO l).2 : Nat)]) ∧ Below w.heap.size w w'
theorem Read_left {a : Option Addr} {cap n : Nat} {l : List Nat} {w : World} (hn : n = l.length) (hl : l.length ≤ 140737488353000) (hlo : LM.Lo 256 l) (hrd : Rd w .u8 a l) (ht : Sh w) (hcp : l.length ≤ cap) :
    Calls Tryd.prog 33 #[.slice a n cap] w (ResRq l w) := by
  subst hn
  refine (Read_any a cap l w hl hlo hrd ht hcp).mono ?_
  rintro r w' ⟨ps, k', err', hps, hf, rfl, hb⟩
  have := rdO_is (RdR.of hf)
  refine ⟨_, by rw [this], hb⟩
set_option maxRecDepth 100000 in
set_option maxHeartbeats 2000000 in
theorem quoted_any (g : Nat) (a : Option Addr) (cap : Nat) (l : List Nat) (m k : Nat) (s : List Bool) (d : Bool) (w : World) (h : VB w g a cap l m k s d) (hp : 0 < l.length) :
    Calls Tryd.prog 28 #[.pointer (some ⟨g, 0, none⟩)] w (ResVB g a cap l m s d (quoF l k) w) := by
  have HB := Lib.hid h
  obtain ⟨c0, c1, c6, c7, c8, hf⟩ := h.cells
  obtain ⟨hk, hl, hlo, hs2, hm⟩ := h.facts
  obtain ⟨_, _, _, _, _, _, _, _, _, hrd, _, _, _, hcp, hsh, _⟩ := h
  obtain ⟨b, off, ea, hc0⟩ := hrd 0 hp
  subst ea
  have hlen : (l.drop k).length = l.length - k := List.length_drop ..
  have HRz := Lib.hid (fun W (ht : Sh W) (hz : l.length = k) => Read_left (a := some ⟨b, off, none⟩) (cap := 0) (n := 0) (l := l.drop k) (w := W) (by rw [List.length_drop]; omega) (by rw [List.length_drop]; omega) (lo_dropV hlo k) (fun j hj => by rw [List.length_drop] at hj; omega) ht (by rw [List.length_drop]; omega))
  have HRd := Lib.hid (fun W cp (hr : Rd W .u8 (some ⟨b, off + k, none⟩) (l.drop k)) (ht : Sh W) (hc : (l.drop k).length ≤ cp) => Read_left (cap := cp) (n := l.length - k) hlen.symm (by omega) (lo_dropV hlo k) hr ht hc)
  have HR := Lib.hid hrd
  have HS := Lib.hid hsh
  have hcap2 : (l.drop k).length ≤ cap - k := by omega
  have HC := Lib.hid hcap2
  unfold ResRq at HRd HRz
  have hq := quo_ok.le l k hk
  unfold quoF at hq ⊢
  generalize rdO (l.drop k) = R at *
  obtain ⟨n, err⟩ := R
  simp only at hq
  clear hrd hsh hc0 hlo hcap2 hlen
  go_enter Tryd.func28, Tryd.ntmps28
  have fin : ∀ (v : ByteArray) (W : World), Hid (VB W g (some ⟨b, off, none⟩) cap l m k s d) → Hid (w.grownBy W (some g)) → ResVB g (some ⟨b, off, none⟩) cap l m s d (decide (err = 0), k + n) w (.returned (.bool ((err : Int) == 0))) (W.setCell ⟨g, 1, none⟩ (.int .i64 ((k : Int) + n))) := fun v W h1 h2 =>
    ⟨ret_bool (by by_cases e : err = 0 <;> simp [e]), h1.out.put (k + n) hq (by omega), gb_set h2.out _ _⟩
  have FIN := Lib.hid fin
  clear fin
  have HBd : Hid (VB w.drew g (some ⟨b, off, none⟩) cap l m k s d) := Lib.hid (HB.out.dN 1)
  by_cases hck : cap = k
  · have hz : l.length = k := by omega
    have HQ := Lib.hid (HRz.out w.drew HS.out hz)
    have HK : Hid (k = l.length) := Lib.hid hz.symm
    clear c6 c7 c8 HRz HRd HC
    subst hck
    rw [hz] at c0
    go_wp2_with fail
    go_region_law (first | (go_simp; go_at_call 33; (with_reducible refine HQ.out.mono ?_); rintro e w1 ⟨t, rfl, hb⟩; have H1 := Lib.hid (HBd.out.below hb); have G1 := Lib.hid (gb_trans (gb_drew (gb_refl w (some g))) (gb_of_below hb)); obtain ⟨j0, j1, _, _, _, jf⟩ := H1.out.cells))
    all_goals
      go_wp2
      go_ret
      exact FIN.out t _ H1 G1
  · have HQ := Lib.hid (HRd.out w.drew (cap - k) (HR.out.dropV k) HS.out HC.out)
    clear c6 c7 c8 HRz HRd
    go_wp2_with fail
    go_region_law (first | (go_simp; go_at_call 33; (with_reducible refine HQ.out.mono ?_); rintro e w1 ⟨t, rfl, hb⟩; have H1 := Lib.hid (HBd.out.below hb); have G1 := Lib.hid (gb_trans (gb_drew (gb_refl w (some g))) (gb_of_below hb)); obtain ⟨j0, j1, _, _, _, jf⟩ := H1.out.cells))
    all_goals
      go_wp2
      go_ret
      exact FIN.out t _ H1 G1
end Go.Proofs.YtefaieglhllioaaDoor
