/- lex: escaped walked. -/
import Derived.Test.YtpgiljibicigeaaGreatDoorLexJs
import Derived.Test.YtpgiljibicigeaaGreatDoorQuoPs
import Derived.Test.YtpgiljibicigeaaGreatDoorShelf
import Derived.Laws.Externs
import Derived.Lib.AppendStr
set_option linter.unusedVariables false
set_option linter.unusedSimpArgs false
namespace Go.Proofs.YtpgiljibicigeaaGreatDoor
open Go.RowKit UM QM LX

theorem lasF_spec : ∀ l : List Nat, 92 ∈ l → lasF l < l.length ∧ l[lasF l]? = some 92 ∧ ∀ j, lasF l < j → l[j]? ≠ some 92
  | [], h => by cases h
  | c :: t, h => by
    simp only [lasF]
    by_cases hc : c = 92
    · rw [if_pos hc]
      by_cases ht : t.contains 92 = true
      · rw [if_pos ht]
        obtain ⟨h1, h2, h3⟩ := lasF_spec t (List.contains_iff_mem.1 ht)
        refine ⟨by simpa using h1, by simpa using h2, fun j hj => ?_⟩
        obtain ⟨i, rfl⟩ : ∃ i, j = i + 1 := ⟨j - 1, by omega⟩
        rw [List.getElem?_cons_succ]; exact h3 i (by omega)
      · rw [if_neg ht]
        refine ⟨by simp, by simp [hc], fun j hj he => ?_⟩
        obtain ⟨i, rfl⟩ : ∃ i, j = i + 1 := ⟨j - 1, by omega⟩
        rw [List.getElem?_cons_succ] at he
        exact ht (List.contains_iff_mem.2 (List.mem_of_getElem? he))
    · rw [if_neg hc]
      have hm : 92 ∈ t := by
        rcases List.mem_cons.1 h with h | h
        · exact absurd h.symm hc
        · exact h
      obtain ⟨h1, h2, h3⟩ := lasF_spec t hm
      refine ⟨by simpa using h1, by simpa using h2, fun j hj => ?_⟩
      obtain ⟨i, rfl⟩ : ∃ i, j = i + 1 := ⟨j - 1, by omega⟩
      rw [List.getElem?_cons_succ]; exact h3 i (by omega)
theorem dat_at (s : ByteArray) (j : Nat) (h : j < s.size) : (bl s)[j]? = some (s.data[j]!).toNat := by
  have h2 := at_some h
  rw [h2]
  have : s.data[j]! = s[j] := by rw [getElem!_pos s.data j h]; rfl
  rw [this]
theorem las_is (t : ByteArray) (h : 92 ∈ bl t) : Lib.lastIndexByte t 92 = (lasF (bl t) : Int) := by
  obtain ⟨h1, h2, h3⟩ := lasF_spec (bl t) h
  rw [bl_len] at h1
  rcases Lib.lastIndexByte_spec t 92 with ⟨_, hn⟩ | ⟨i, hi, he, hc, hn⟩
  · have := hn _ h1
    have e := dat_at t _ h1
    rw [h2] at e
    exact absurd (by have := Option.some.inj e; omega) this
  · rw [he]
    have e := dat_at t i hi
    have hi92 : (bl t)[i]? = some 92 := by rw [e]; congr 1; omega
    rcases Nat.lt_trichotomy i (lasF (bl t)) with hlt | heq | hgt
    · have e2 := dat_at t _ h1
      rw [h2] at e2
      exact absurd (by have := Option.some.inj e2; omega) (hn _ hlt h1)
    · rw [heq]
    · exact absurd hi92 (h3 i hgt)
def ResRx (r : List Nat) (w : World) (e : Ending) (w' : World) : Prop :=
  e = .returned (.tuple #[.string (if (rdR r).2.2 = 0 then tx (encL ((rdR r).1.map Int.toNat)) else ⟨#[]⟩), .int .i64 ((rdR r).2.1 : Int), .int .i64 ((rdR r).2.2 : Int)]) ∧ Below w.heap.size w w'
theorem rdR_pts {l : List Nat} {ps : List Nat} (h : toI ps = (rdP l).1) : (rdP l).1.map Int.toNat = ps := by
  rw [← h]; unfold toI
  rw [List.map_map, show (Int.toNat ∘ fun p : Nat => ((p : Nat) : Int)) = id by funext p; simp, List.map_id]
/-- Read of a row in quotes -/
theorem lxRead_any (r : List Nat) (hr : ∀ x ∈ r, x < 256) (hl : r.length ≤ 100000) (W : World) (hW : Sh W) :
    Calls Tryz.prog 71 #[.slice (some ⟨W.heap.size, 0, none⟩) (34 :: rowR r ++ [34]).length (grownCap W (34 :: rowR r ++ [34]).length 0 5)] (Lib.bytesWorld W 5 (tx (34 :: rowR r ++ [34]))) (ResRx r W) := by
  have hlo : ∀ x ∈ 34 :: rowR r ++ [34], x < 256 := by
    intro x hx
    simp only [List.cons_append, List.mem_cons, List.mem_append, List.not_mem_nil, or_false] at hx
    rcases hx with rfl | hx | rfl
    · decide
    · exact hr x (List.mem_of_mem_take hx)
    · decide
  have hlen : (34 :: rowR r ++ [34]).length ≤ 100002 := by
    have : (rowR r).length ≤ r.length := by unfold rowR; rw [List.length_take]; omega
    simp only [List.cons_append, List.length_cons, List.length_append, List.length_nil]; omega
  have hb := bw_below W 5 (tx (34 :: rowR r ++ [34]))
  refine (Read_any _ _ (34 :: rowR r ++ [34]) _ (by omega) hlo (bw_rd W _ _ hlo) (hW.below hb) (bw_cap W _ _)).mono ?_
  rintro e w' ⟨ps, k, err, hps, hf, rfl, hb2⟩
  have hd := (RdR.of hf).det (rdP_spec (34 :: rowR r ++ [34]))
  obtain ⟨h1, h2, h3⟩ := hd
  have h4 := rdR_pts (l := 34 :: rowR r ++ [34]) h1
  refine ⟨?_, hb.trans (hb2.mono hb.size)⟩
  show _ = Ending.returned (.tuple #[.string (if (rdP (34 :: rowR r ++ [34])).2.2 = 0 then tx (encL ((rdP (34 :: rowR r ++ [34])).1.map Int.toNat)) else ⟨#[]⟩), .int .i64 ((rdP (34 :: rowR r ++ [34])).2.1 : Int), .int .i64 ((rdP (34 :: rowR r ++ [34])).2.2 : Int)])
  rw [h4, ← h2, ← h3]
theorem ext_bl (s : ByteArray) (a b : Nat) : bl (s.extract a b) = ((bl s).drop a).take (b - a) := by
  unfold bl
  rw [← List.map_drop, ← List.map_take]
  congr 1
  rw [ByteArray.data_extract]; simp [List.take_drop]
theorem row_txt (s : ByteArray) (p : Nat) : tx (34 :: rowR ((bl s).drop p) ++ [34]) = ⟨#[34]⟩ ++ s.extract p (p + (rowR ((bl s).drop p)).length) ++ ⟨#[34]⟩ := by
  have hlo : ∀ x ∈ 34 :: rowR ((bl s).drop p) ++ [34], x < 256 := by
    intro x hx
    simp only [List.cons_append, List.mem_cons, List.mem_append, List.not_mem_nil, or_false] at hx
    rcases hx with rfl | hx | rfl
    · decide
    · exact bl_lo s x (List.mem_of_mem_drop (List.mem_of_mem_take hx))
    · decide
  refine bl_inj ?_
  rw [bl_tx hlo]
  have happ : ∀ a b : ByteArray, bl (a ++ b) = bl a ++ bl b := fun a b => by
    unfold bl
    rw [ByteArray.data_append, Array.toList_append, List.map_append]
  rw [happ, happ, ext_bl, Nat.add_sub_cancel_left]
  have : ((bl s).drop p).take (rowR ((bl s).drop p)).length = rowR ((bl s).drop p) := by
    unfold rowR; rw [List.length_take, List.take_eq_take_iff]; omega
  rw [this]; rfl
theorem LBX.cells {w : World} {g : Nat} {s : ByteArray} {p : Nat} {T : List Tk} {op : List Nat} {m : Nat} {a1 : Option Addr} {k1 : Nat} {a2 : Option Addr} {k2 : Nat} (h : LBX w g s p T op m a1 k1 a2 k2) : w.cell? ⟨g, 0, none⟩ = some (.string s) ∧ w.cell? ⟨g, 1, none⟩ = some (.int .i64 (p : Int)) ∧ w.cell? ⟨g, 4, none⟩ = some (.int .i64 (m : Int)) ∧ (∀ j, w.frozen? ⟨g, j, none⟩ = false) ∧ p ≤ s.size := ⟨h.c0, h.c1, h.c4, h.fz, h.pl⟩
/-- only the place has turned -/
def ResEx (g : Nat) (s : ByteArray) (p : Nat) (T : List Tk) (op : List Nat) (m : Nat) (a1 : Option Addr) (k1 : Nat) (a2 : Option Addr) (k2 : Nat) (v : Value) (w : World) (e : Ending) (w' : World) : Prop := e = .returned v ∧ LBX w' g s p T op m a1 k1 a2 k2 ∧ w.grownBy w' (some g)
set_option maxRecDepth 100000 in
set_option maxHeartbeats 4000000 in
theorem lxEsc_ok (g : Nat) (s : ByteArray) (p : Nat) (T : List Tk) (op : List Nat) (m : Nat) (a1 : Option Addr) (k1 : Nat) (a2 : Option Addr) (k2 : Nat) (w : World) (h : LBX w g s p T op m a1 k1 a2 k2) (ht : Sh w) (hs : s.size ≤ 100000) (h92 : ((bl s).drop p).head? = some 92) (h40 : (((bl s).drop p).drop 1).head? ≠ some 40) (he : (rdR ((bl s).drop p)).2.2 = 0) :
    Calls Tryz.prog 49 #[.pointer (some ⟨g, 0, none⟩)] w (ResEx g s (p + (rowR ((bl s).drop p)).length) T op m a1 k1 a2 k2 (.tuple #[.string (tx (encL ((rdR ((bl s).drop p)).1.map Int.toNat))), .int .i64 0]) w) := by
  have H := Lib.hid h
  obtain ⟨c0, c1, c4, fz, hp⟩ := h.cells
  have hg := h.lt
  have hdl : ((bl s).drop p).length = s.size - p := by rw [List.length_drop, bl_len]
  have hrl : (rowR ((bl s).drop p)).length = min (ecR ((bl s).drop p).length ((bl s).drop p)) ((bl s).drop p).length := by unfold rowR; rw [List.length_take]
  have HE := Lib.hid (fun w => escapedEnd_any s p w (by omega) hp)
  have hE : min (p + ecR ((bl s).drop p).length ((bl s).drop p)) s.size = p + (rowR ((bl s).drop p)).length := by rw [hrl, hdl]; omega
  rw [hE] at HE
  have HR := Lib.hid (fun W hW => lxRead_any ((bl s).drop p) (fun x hx => bl_lo s x (List.mem_of_mem_drop hx)) (by rw [hdl]; omega) W hW)
  unfold ResRx at HR
  rw [if_pos he, he] at HR
  have hY := row_txt s p
  have hn : p + (rowR ((bl s).drop p)).length ≤ s.size := by rw [← hE]; omega
  have kc := fun W => conv_bw W (34 :: rowR ((bl s).drop p) ++ [34])
  rw [hY] at kc HR
  have HT := Lib.hid ht
  have hlq : (34 :: rowR ((bl s).drop p) ++ [34]).length = (rowR ((bl s).drop p)).length + 2 := by simp
  rw [hlq] at HR
  rw [hlq] at kc
  clear hY hE hrl hdl h he h92 h40 ht hlq
  generalize rdR ((bl s).drop p) = q at *
  generalize (rowR ((bl s).drop p)).length = n at *
  have i1 : (p : Int) ≤ (p : Int) + (n : Int) := by omega
  have i2 : (p : Int) + (n : Int) ≤ (s.size : Int) := by omega
  have i3 : p ≤ p + n := by omega
  go_enter Tryz.func49, Tryz.ntmps49
  go_wp2_with fail
  go_quiet (first | (go_at_call 70; exact still (HE.out _)))
  go_wp2_with fail
  go_quiet (fail)
  go_wp2_with fail
  refine (HR.out _ (HT.out.dN _)).mono ?_
  rintro e w2 ⟨rfl, hb⟩
  have H2 := Lib.hid ((H.out.dN _).below hb)
  have G2 : Hid (w.grownBy w2 (some g)) := Lib.hid (gb_trans (gb_dN (gb_refl _ _) _) (gb_of_below hb))
  clear kc HR HE c0 c1 c4 fz hb H
  obtain ⟨c0, c1, c4, fz, _⟩ := H2.out.cells
  clear c0 c4
  go_wp2
  go_ret2
  exact ⟨rfl, H2.out.at (p + n) hn (by omega), gb_set G2.out _ _⟩
set_option maxRecDepth 100000 in
set_option maxHeartbeats 4000000 in
theorem lxEsc_short (g : Nat) (s : ByteArray) (p : Nat) (T : List Tk) (op : List Nat) (m : Nat) (a1 : Option Addr) (k1 : Nat) (a2 : Option Addr) (k2 : Nat) (w : World) (h : LBX w g s p T op m a1 k1 a2 k2) (ht : Sh w) (hs : s.size ≤ 100000) (h92 : ((bl s).drop p).head? = some 92) (h40 : (((bl s).drop p).drop 1).head? ≠ some 40) (he : (rdR ((bl s).drop p)).2.2 ≠ 0) (K : Nat) (hK : (rdR ((bl s).drop p)).2.1 = K + 1) (hK2 : s.size ≤ p + K) :
    Calls Tryz.prog 49 #[.pointer (some ⟨g, 0, none⟩)] w (ResEx g s s.size T op m a1 k1 a2 k2 (.tuple #[.string ⟨#[]⟩, .int .i64 5]) w) := by
  have H := Lib.hid h
  obtain ⟨c0, c1, c4, fz, hp⟩ := h.cells
  have hg := h.lt
  have hdl : ((bl s).drop p).length = s.size - p := by rw [List.length_drop, bl_len]
  have hrl : (rowR ((bl s).drop p)).length = min (ecR ((bl s).drop p).length ((bl s).drop p)) ((bl s).drop p).length := by unfold rowR; rw [List.length_take]
  have HE := Lib.hid (fun w => escapedEnd_any s p w (by omega) hp)
  have hE : min (p + ecR ((bl s).drop p).length ((bl s).drop p)) s.size = p + (rowR ((bl s).drop p)).length := by rw [hrl, hdl]; omega
  rw [hE] at HE
  have HR := Lib.hid (fun W hW => lxRead_any ((bl s).drop p) (fun x hx => bl_lo s x (List.mem_of_mem_drop hx)) (by rw [hdl]; omega) W hW)
  unfold ResRx at HR
  rw [if_neg he, hK] at HR
  have t0 : (((rdR ((bl s).drop p)).2.2 : Int) == 0) = false := by rw [beq_eq_false_iff_ne]; omega
  have hKu : K ≤ s.size + 1 := by
    have := (rdR_row _ h92 h40).2.2.2.2.1
    rw [hK, hrl, hdl] at this; omega
  have s1 : IntKind.i64.wrap (((K + 1 : Nat) : Int) - 1) = (K : Int) := by rw [show ((K + 1 : Nat) : Int) - 1 = (K : Int) by omega]; exact IntWalk.i64_in _ (by omega)
  have s2 : ((K + 1 : Nat) : Int) - 1 = (K : Int) := by omega
  have s3 : IntKind.i64.wrap ((p : Int) + (K : Int)) = (p : Int) + (K : Int) := IntWalk.i64_in _ (by omega)
  have s4 : (s.size : Int) ≤ (p : Int) + (K : Int) := by omega
  obtain ⟨K1, hK1⟩ : ∃ K1, K + 1 = K1 := ⟨_, rfl⟩
  rw [hK1] at HR s1 s2
  have hK3 : 1 ≤ K1 := by omega
  have hK4 : K1 ≤ 100002 := by omega
  clear hK hK1
  have hY := row_txt s p
  have hn : p + (rowR ((bl s).drop p)).length ≤ s.size := by rw [← hE]; omega
  have kc := fun W => conv_bw W (34 :: rowR ((bl s).drop p) ++ [34])
  rw [hY] at kc HR
  have HT := Lib.hid ht
  have hlq : (34 :: rowR ((bl s).drop p) ++ [34]).length = (rowR ((bl s).drop p)).length + 2 := by simp
  rw [hlq] at HR
  rw [hlq] at kc
  clear hY hE hrl hdl h he h92 h40 ht hlq
  generalize rdR ((bl s).drop p) = q at *
  generalize (rowR ((bl s).drop p)).length = n at *
  have i1 : (p : Int) ≤ (p : Int) + (n : Int) := by omega
  have i2 : (p : Int) + (n : Int) ≤ (s.size : Int) := by omega
  have i3 : p ≤ p + n := by omega
  go_enter Tryz.func49, Tryz.ntmps49
  go_wp2_with fail
  go_quiet (first | (go_at_call 70; exact still (HE.out _)))
  go_wp2_with fail
  go_quiet (fail)
  go_wp2_with fail
  refine (HR.out _ (HT.out.dN _)).mono ?_
  rintro e w2 ⟨rfl, hb⟩
  have H2 := Lib.hid ((H.out.dN _).below hb)
  have G2 : Hid (w.grownBy w2 (some g)) := Lib.hid (gb_trans (gb_dN (gb_refl _ _) _) (gb_of_below hb))
  clear kc HR HE c0 c1 c4 fz hb H
  obtain ⟨c0, c1, c4, fz, _⟩ := H2.out.cells
  clear c4
  go_wp2_with fail
  go_quiet (fail)
  go_wp2
  go_ret2
  exact ⟨rfl, (H2.out.dN _).at s.size (Nat.le_refl _) rfl, gb_set (gb_dN G2.out _) _ _⟩
set_option maxRecDepth 100000 in
set_option maxHeartbeats 4000000 in
theorem lxEsc_bad (g : Nat) (s : ByteArray) (p : Nat) (T : List Tk) (op : List Nat) (m : Nat) (a1 : Option Addr) (k1 : Nat) (a2 : Option Addr) (k2 : Nat) (w : World) (h : LBX w g s p T op m a1 k1 a2 k2) (ht : Sh w) (hs : s.size ≤ 100000) (h92 : ((bl s).drop p).head? = some 92) (h40 : (((bl s).drop p).drop 1).head? ≠ some 40) (he : (rdR ((bl s).drop p)).2.2 ≠ 0) (K : Nat) (hK : (rdR ((bl s).drop p)).2.1 = K + 1) (hK2 : p + K < s.size) :
    Calls Tryz.prog 49 #[.pointer (some ⟨g, 0, none⟩)] w (ResEx g s (p + lasF (((bl s).drop p).take K)) T op m a1 k1 a2 k2 (.tuple #[.string ⟨#[]⟩, .int .i64 2]) w) := by
  have H := Lib.hid h
  obtain ⟨c0, c1, c4, fz, hp⟩ := h.cells
  have hg := h.lt
  have hdl : ((bl s).drop p).length = s.size - p := by rw [List.length_drop, bl_len]
  have hrl : (rowR ((bl s).drop p)).length = min (ecR ((bl s).drop p).length ((bl s).drop p)) ((bl s).drop p).length := by unfold rowR; rw [List.length_take]
  have HE := Lib.hid (fun w => escapedEnd_any s p w (by omega) hp)
  have hE : min (p + ecR ((bl s).drop p).length ((bl s).drop p)) s.size = p + (rowR ((bl s).drop p)).length := by rw [hrl, hdl]; omega
  rw [hE] at HE
  have HR := Lib.hid (fun W hW => lxRead_any ((bl s).drop p) (fun x hx => bl_lo s x (List.mem_of_mem_drop hx)) (by rw [hdl]; omega) W hW)
  unfold ResRx at HR
  rw [if_neg he, hK] at HR
  have t0 : (((rdR ((bl s).drop p)).2.2 : Int) == 0) = false := by rw [beq_eq_false_iff_ne]; omega
  have hrr := rdR_row _ h92 h40
  have hK0 : 1 ≤ K := by have := hrr.2.2.2.1; omega
  have hKr : K ≤ (rowR ((bl s).drop p)).length := by
    by_cases hcut : ecR ((bl s).drop p).length ((bl s).drop p) ≤ ((bl s).drop p).length
    · have := hrr.2.2.1 hcut he; omega
    · rw [hrl, hdl] at *; omega
  have hpre : ((bl s).drop p).take K = bl ((s.extract p (p + (rowR ((bl s).drop p)).length)).extract 0 K) := by
    rw [ext_bl, ext_bl, List.drop_zero, List.take_take]
    congr 1; omega
  have hmem : 92 ∈ ((bl s).drop p).take K := by
    obtain ⟨x, t, hx⟩ : ∃ x t, (bl s).drop p = x :: t := by
      cases hq : (bl s).drop p with
      | nil => rw [hq] at h92; simp at h92
      | cons x t => exact ⟨x, t, rfl⟩
    rw [hx] at h92 ⊢
    have : x = 92 := by simpa using h92
    obtain ⟨j, rfl⟩ : ∃ j, K = j + 1 := ⟨K - 1, by omega⟩
    rw [List.take_succ_cons, this]; exact List.mem_cons_self ..
  have hla := las_is ((s.extract p (p + (rowR ((bl s).drop p)).length)).extract 0 K) (by rw [← hpre]; exact hmem)
  rw [← hpre] at hla
  have hlt := (lasF_spec _ hmem).1
  rw [List.length_take] at hlt
  have hxs : ((s.extract p (p + (rowR ((bl s).drop p)).length)).extract 0 K).size < 4611686018427387904 := by
    rw [← bl_len, ← hpre, List.length_take]; omega
  have HLa := Lib.hid (fun w => Tryz.strings_LastIndexByte ((s.extract p (p + (rowR ((bl s).drop p)).length)).extract 0 K) 92 hxs w)
  rw [hla] at HLa
  have hsz : (s.extract p (p + (rowR ((bl s).drop p)).length)).size = (rowR ((bl s).drop p)).length := by
    rw [← bl_len, ext_bl, List.length_take, hdl]; omega
  have s1 : IntKind.i64.wrap (((K + 1 : Nat) : Int) - 1) = (K : Int) := by rw [show ((K + 1 : Nat) : Int) - 1 = (K : Int) by omega]; exact IntWalk.i64_in _ (by omega)
  have s2 : ((K + 1 : Nat) : Int) - 1 = (K : Int) := by omega
  have s3 : IntKind.i64.wrap ((p : Int) + (K : Int)) = (p : Int) + (K : Int) := IntWalk.i64_in _ (by omega)
  have s4 : ¬ (s.size : Int) ≤ (p : Int) + (K : Int) := by omega
  have hy1 : K ≤ (s.extract p (p + (rowR ((bl s).drop p)).length)).size := by rw [hsz]; exact hKr
  have hy2 : (K : Int) ≤ ((s.extract p (p + (rowR ((bl s).drop p)).length)).size : Int) := by omega
  have hls : lasF (((bl s).drop p).take K) ≤ K := by omega
  clear hpre hmem hla hlt hxs hsz hrr
  generalize lasF (((bl s).drop p).take K) = j at *
  have hj : p + j ≤ s.size := by omega
  have s5 : IntKind.i64.wrap ((p : Int) + (j : Int)) = (p : Int) + (j : Int) := IntWalk.i64_in _ (by omega)
  obtain ⟨K1, hK1⟩ : ∃ K1, K + 1 = K1 := ⟨_, rfl⟩
  rw [hK1] at HR s1 s2
  have hK3 : 1 ≤ K1 := by omega
  have hK4 : K1 ≤ 100002 := by omega
  clear hK hK1
  have hY := row_txt s p
  have hn : p + (rowR ((bl s).drop p)).length ≤ s.size := by rw [← hE]; omega
  have kc := fun W => conv_bw W (34 :: rowR ((bl s).drop p) ++ [34])
  rw [hY] at kc HR
  have HT := Lib.hid ht
  have hlq : (34 :: rowR ((bl s).drop p) ++ [34]).length = (rowR ((bl s).drop p)).length + 2 := by simp
  rw [hlq] at HR
  rw [hlq] at kc
  clear hY hE hrl hdl h he h92 h40 ht hlq
  generalize rdR ((bl s).drop p) = q at *
  generalize (rowR ((bl s).drop p)).length = n at *
  have i1 : (p : Int) ≤ (p : Int) + (n : Int) := by omega
  have i2 : (p : Int) + (n : Int) ≤ (s.size : Int) := by omega
  have i3 : p ≤ p + n := by omega
  go_enter Tryz.func49, Tryz.ntmps49
  go_wp2_with fail
  go_quiet (first | (go_at_call 70; exact still (HE.out _)))
  go_wp2_with fail
  go_quiet (fail)
  go_wp2_with fail
  refine (HR.out _ (HT.out.dN _)).mono ?_
  rintro e w2 ⟨rfl, hb⟩
  have H2 := Lib.hid ((H.out.dN _).below hb)
  have G2 : Hid (w.grownBy w2 (some g)) := Lib.hid (gb_trans (gb_dN (gb_refl _ _) _) (gb_of_below hb))
  clear kc HR HE c0 c1 c4 fz hb H
  obtain ⟨c0, c1, c4, fz, _⟩ := H2.out.cells
  clear c4
  go_wp2_with fail
  go_quiet (fail)
  go_wp2_with fail
  go_region_law (go_simp; go_at_call 72; refine (HLa.out _).mono ?_; rintro e w3 ⟨rfl, rfl⟩)
  all_goals
    go_wp2
    go_ret2
    exact ⟨rfl, (H2.out.dN _).at (p + j) hj (by omega), gb_set (gb_dN G2.out _) _ _⟩
end Go.Proofs.YtpgiljibicigeaaGreatDoor

/- strings.Builder as this program holds it (its copyCheck ends where the shelf's goes on): what it writes. -/
namespace Go.Proofs.YtpgiljibicigeaaGreatDoor
open Go.RowKit UM QM

theorem sb_size : (Tryz.prog.info? 83).map (·.size) = some 2 := by kernel_rfl
set_option maxHeartbeats 1000000 in
set_option maxRecDepth 100000 in
theorem copyCheck_used (b : Nat) (w : World) (h0 : w.cell? ⟨b, 0, none⟩ = some (.pointer (some ⟨b, 0, none⟩))) :
    Calls Tryz.prog 73 #[.pointer (some ⟨b, 0, none⟩)] w fun e w' => e = .returned (.tuple #[]) ∧ w' = w := by
  obtain ⟨j, hj, _⟩ := Option.map_eq_some_iff.1 sb_size
  go_enter Tryz.func73, Tryz.ntmps73
  go_wp2
  rw [Lib.run_neq_ptr_same w _ Tryz.underlying81 hj]
  go_wp2
  go_end0
  exact ⟨rfl, rfl⟩
set_option maxHeartbeats 1000000 in
set_option maxRecDepth 100000 in
theorem copyCheck_fresh (b : Nat) (w : World) (h0 : w.cell? ⟨b, 0, none⟩ = some (.pointer none)) (hsh : w.shape? b = some (83, 2)) (hfz : w.frozen? ⟨b, 0, none⟩ = false) :
    Calls Tryz.prog 73 #[.pointer (some ⟨b, 0, none⟩)] w fun e w' => e = .returned (.tuple #[]) ∧ w' = w.setCell ⟨b, 0, none⟩ (.pointer (some ⟨b, 0, none⟩)) := by
  obtain ⟨j, hj, hjs⟩ := Option.map_eq_some_iff.1 sb_size
  go_enter Tryz.func73, Tryz.ntmps73
  go_wp2
  rw [Lib.run_to_unsafe w ⟨b, 0, none⟩ Tryz.underlying81 Tryz.underlying114 hj (by rw [hjs]; decide) hsh (Nat.zero_lt_succ 1)]
  simp only [Result.andThen]
  rw [Oper.upon_value]
  go_wp2
  rw [run_callFunc_extern Tryz.func84 (by kernel_rfl) (by kernel_rfl) (by kernel_rfl) (e := Extern.AbiNoEscape.same) (by kernel_rfl)]
  rw [Lib.run_noEscape]
  simp only [Result.andThen]
  rw [Oper.upon_value]
  go_wp2
  rw [Lib.run_from_unsafe w ⟨b, 0, none⟩ Tryz.underlying114 Tryz.underlying81 hj hsh (by kernel_rfl)]
  simp only [Result.andThen]
  rw [Oper.upon_value]
  go_wp2
  go_end0
  exact ⟨rfl, rfl⟩
theorem copyCheck_any (B b : Nat) (bs : List Value) (w : World) (h : Lib.IsBuilder 83 5 B b bs w) :
    Calls Tryz.prog 73 #[.pointer (some ⟨b, 0, none⟩)] w fun e w' => e = .returned (.tuple #[]) ∧ (Lib.BuilderAt 83 5 B b (.pointer (some ⟨b, 0, none⟩)) bs w' ∧ Below B w w') := by
  rcases h with h | h
  · refine (copyCheck_fresh b w h.cell0 h.shape h.frozen0).mono ?_
    rintro e w' ⟨rfl, rfl⟩
    exact ⟨rfl, h.used _, (Below.refl B w).setCell (p := ⟨b, 0, none⟩) h.1 _⟩
  · refine (copyCheck_used b w h.cell0).mono ?_
    rintro e w' ⟨rfl, rfl⟩
    exact ⟨rfl, h, Below.refl B _⟩
/-- what a writing leaves -/
theorem sb_wrote {B b : Nat} {bs news : List Value} {v v' : Value} {w w1 w1' w2 : World} (hB : B ≤ b) (hb1 : Below B w w1) (hbk : w1.heap[b]? = some (.cells #[.pointer (some ⟨b, 0, none⟩), v] 83 (0, 0)))
    (hw1 : Below w1.heap.size w1 w1') (hown : w1'.ownsRow B 5 1 v bs.length bs) (hne : v.ownBlock ≠ some b) (hB1 : B ≤ w1.heap.size) (hgrow : w1'.grownBy w2 v.ownBlock) (hown' : w2.ownsRow B 5 1 v' (bs ++ news).length (bs ++ news)) :
    w2.heap[b]? = some (.cells #[.pointer (some ⟨b, 0, none⟩), v] 83 (0, 0)) ∧ Lib.BuilderAt 83 5 B b (.pointer (some ⟨b, 0, none⟩)) (bs ++ news) (w2.setCell ⟨b, 1, none⟩ v') ∧ Below B w (w2.setCell ⟨b, 1, none⟩ v') := by
  have hlt : b < w1.heap.size := by
    rcases Nat.lt_or_ge b w1.heap.size with h' | h'
    · exact h'
    · simp [Array.getElem?_eq_none h'] at hbk
  have hb2 : w2.heap[b]? = some (.cells #[.pointer (some ⟨b, 0, none⟩), v] 83 (0, 0)) := by
    rw [hgrow.block b (by have := hw1.size; omega) (fun e => hne e.symm), hw1.block b hlt]
    exact hbk
  exact ⟨hb2, Lib.BuilderAt.put hB hb2 hown' (by decide), ((hb1.trans (hw1.mono hB1)).grown hgrow (by have := hw1.size; omega) (fun k hk => (hown.lt k hk).1)).setCell (p := ⟨b, 1, none⟩) hB _⟩
set_option maxHeartbeats 2000000 in
set_option maxRecDepth 100000 in
theorem WriteByte_any (B b : Nat) (bs : List Value) (c : Int) (w : World) (h : Lib.IsBuilder 83 5 B b bs w) (hlen : bs.length + 1 ≤ 140737488355328) (hBw : B ≤ w.heap.size) :
    Calls Tryz.prog 51 #[.pointer (some ⟨b, 0, none⟩), .int .u8 c] w fun e w' => e = .returned .nilIface ∧ (Lib.BuilderAt 83 5 B b (.pointer (some ⟨b, 0, none⟩)) (bs ++ [.int .u8 c]) w' ∧ Below B w w') := by
  obtain ⟨i0, hi, hz0, hz1, hz2⟩ := info_parts infoU8
  have HC := Lib.hid (copyCheck_any B b bs w h)
  go_enter Tryz.func51, Tryz.ntmps51
  go_wp2_with fail
  refine HC.out.mono ?_
  rintro e w1 ⟨rfl, ⟨hB, v, hbk, hown, hne⟩, hb1⟩
  have hB1 : B ≤ w1.heap.size := Nat.le_trans hBw hb1.size
  have c1 : w1.cell? ⟨b, 1, none⟩ = some v := by rw [Lib.cell_of_heap hbk]; rfl
  have hbA : Below w1.heap.size w1 (w1.alloc (.cells #[.int .u8 c] 5)) := (Below.refl _ _).alloc (Nat.le_refl _) _
  go_wp2_with (at_builtin; refine wpList_append_own _ rfl _ _ 52 rfl B 5 i0 (.int .u8 0) 1 1 Tryz.underlying52 hi hz0 hz1 hz2 rfl (by decide) _ _ _ rfl (hown.alloc _) ⟨w1.heap.size, 0, none⟩ 1 1 [.int .u8 c] rfl rfl ?c1 ?c2 ?c3 ?c4 ?c5 ?_)
  case c1 =>
    intro j u hj
    match j, hj with
    | 0, hj => simp at hj; subst hj; simp [Addr.add]
  case c2 => intro u hu; simp at hu; subst hu; rfl
  case c3 => unfold maxLen; omega
  case c4 => omega
  case c5 => simp; omega
  intro v' w2 hown' hgrow _
  obtain ⟨hb2, hp, hq⟩ := sb_wrote (news := [.int .u8 c]) hB hb1 hbk hbA (hown.alloc _) hne hB1 hgrow (by simpa using hown')
  have d1 : w2.cell? ⟨b, 1, none⟩ = some v := by rw [Lib.cell_of_heap hb2]; rfl
  have f1 : w2.frozen? ⟨b, 1, none⟩ = false := Lib.frozen_of_heap hb2 1
  have HP := Lib.hid hp; have HQ := Lib.hid hq
  obtain ⟨g, cap, rfl⟩ : ∃ g cap, v' = .slice (some ⟨g, 0, none⟩) (bs.length + 1) cap := by
    rcases hown'.2 with ⟨_, h0⟩ | ⟨g, cap, cur, hv, _⟩
    · omega
    · exact ⟨g, cap, hv⟩
  clear hp hq hown hown' hgrow hb2 hbk hbA hb1 h
  go_wp2
  go_ret
  exact ⟨rfl, HP.out, HQ.out⟩
set_option maxHeartbeats 2000000 in
set_option maxRecDepth 100000 in
theorem WriteString_any (B b : Nat) (bs : List Value) (s : ByteArray) (w : World) (h : Lib.IsBuilder 83 5 B b bs w) (hlen : bs.length + s.size ≤ 140737488355328) (hBw : B ≤ w.heap.size) :
    Calls Tryz.prog 50 #[.pointer (some ⟨b, 0, none⟩), .string s] w fun e w' => e = .returned (.tuple #[.int .i64 s.size, .nilIface]) ∧ (Lib.BuilderAt 83 5 B b (.pointer (some ⟨b, 0, none⟩)) (bs ++ Lib.strCells s) w' ∧ Below B w w') := by
  obtain ⟨i0, hi, hz0, hz1, hz2⟩ := info_parts infoU8
  have HC := Lib.hid (copyCheck_any B b bs w h)
  go_enter Tryz.func50, Tryz.ntmps50
  go_wp2_with fail
  refine HC.out.mono ?_
  rintro e w1 ⟨rfl, ⟨hB, v, hbk, hown, hne⟩, hb1⟩
  have hB1 : B ≤ w1.heap.size := Nat.le_trans hBw hb1.size
  have c1 : w1.cell? ⟨b, 1, none⟩ = some v := by rw [Lib.cell_of_heap hbk]; rfl
  go_wp2_with (at_builtin; refine Lib.wpList_append_own_string _ rfl _ _ 52 9 rfl B 5 i0 Tryz.underlying52 Tryz.underlying9 hi hz0 hz1 hz2 _ _ _ rfl hown s rfl ?c3 ?c4 ?c5 ?_)
  case c3 => unfold maxLen; omega
  case c4 => omega
  case c5 => omega
  intro v' w2 hown' hgrow _
  obtain ⟨hb2, hp, hq⟩ := sb_wrote (news := Lib.strCells s) hB hb1 hbk (Below.refl _ _) hown hne hB1 hgrow (by simpa [Lib.strCells_length] using hown')
  have d1 : w2.cell? ⟨b, 1, none⟩ = some v := by rw [Lib.cell_of_heap hb2]; rfl
  have f1 : w2.frozen? ⟨b, 1, none⟩ = false := Lib.frozen_of_heap hb2 1
  have HP := Lib.hid hp; have HQ := Lib.hid hq
  obtain ⟨ao, n', cap, rfl⟩ : ∃ ao n' cap, v' = .slice ao n' cap := by
    rcases hown'.2 with ⟨hv, _⟩ | ⟨g, cap, cur, hv, _⟩
    · exact ⟨_, _, _, hv⟩
    · exact ⟨_, _, _, hv⟩
  clear hp hq hown hown' hgrow hb2 hbk hb1 h
  go_wp2
  go_ret2
  exact ⟨rfl, HP.out, HQ.out⟩
end Go.Proofs.YtpgiljibicigeaaGreatDoor
