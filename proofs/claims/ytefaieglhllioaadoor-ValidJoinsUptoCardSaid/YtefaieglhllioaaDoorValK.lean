/- valid: Check walked. -/
import Derived.Test.YtefaieglhllioaaDoorValHs
import Derived.Test.YtefaieglhllioaaDoorMarK
import Derived.Test.YtefaieglhllioaaDoorValQs
import Derived.Deep.DeepCutAuto
namespace Go.Proofs.YtefaieglhllioaaDoor
open Go.RowKit UM QM VM

def spc (sp : List (Nat × Nat)) : List Value := sp.flatMap fun p => [.int .i64 (p.1 : Int), .int .i64 (p.2 : Int)]
theorem spc_snoc (sp : List (Nat × Nat)) (p : Nat × Nat) : spc (sp ++ [p]) = spc sp ++ [.int .i64 (p.1 : Int), .int .i64 (p.2 : Int)] := by simp [spc]
/-- the box of the fault that is told -/
def FB (W : World) (f : Nat) : Prop := W.cell? ⟨f, 0, none⟩ = some (.int .i64 0) ∧ W.cell? ⟨f, 1, none⟩ = some (.int .i64 0) ∧ ∀ j, W.frozen? ⟨f, j, none⟩ = false
theorem FB.gb {W W' : World} {f g : Nat} (h : FB W f) (hg : W.grownBy W' (some g)) (hne : f ≠ g) : FB W' f := by
  have hlt := lt_of_cell h.1
  refine ⟨hg.cell h.1 (by simp; omega), hg.cell h.2.1 (by simp; omega), fun j => ?_⟩
  rw [World.frozen?_of_block (w := W) (hg.block f hlt (by simp; omega))]; exact h.2.2 j
theorem FB.belowB {W W' : World} {f B : Nat} (h : FB W f) (hb : Below B W W') (hf : f < B) : FB W' f := ⟨by rw [hb.cell hf]; exact h.1, by rw [hb.cell hf]; exact h.2.1, fun j => (hb.frozen (p := ⟨f, j, none⟩) hf).trans (h.2.2 j)⟩
theorem OwnV.gbk {w w' : World} {B : Nat} {e : TypeId} {size : Nat} {a : Option Addr} {n cap g : Nat} {xs : List Value} (h : OwnV w B e size a n cap xs) (hg : w.grownBy w' (some g)) (hB : g < B) : OwnV w' B e size a n cap xs := by
  refine World.ownsRow.kept h hg ?_
  rcases h.shape with ⟨h1, _⟩ | ⟨g', cur, h1, hb, _⟩
  · left; rw [h1]; rfl
  · right; rw [h1]; intro e2; simp [Value.ownBlock] at e2; omega
theorem VB.belowB {w w' : World} {g B : Nat} {a : Option Addr} {cap : Nat} {l : List Nat} {m k : Nat} {s : List Bool} {d : Bool} (h : VB w g a cap l m k s d) (hb : Below B w w') (hg : g < B) (hab : ∀ b off, a = some ⟨b, off, none⟩ → 0 < l.length → b < B) (hs : 0 < B) : VB w' g a cap l m k s d := by
  obtain ⟨c1, ⟨f, f0, f1, f2, f3, fb⟩, c6, c8, hk, hs2, c0, c7, hf, hr, ha, hl, hlo, hcp, ⟨q0, q1, q2, q3, q4, q5, q6, q7, q8, q9, q10, q11⟩, hsn, hm⟩ := h
  have key : ∀ (p : Addr) (v : Value), p.block < B → w.cell? p = some v → w'.cell? p = some v := fun p v hp e => by rw [hb.cell hp]; exact e
  refine ⟨key _ _ hg c1, ⟨f, key _ _ hg f0, key _ _ hg f1, key _ _ hg f2, key _ _ hg f3, fb⟩, key _ _ hg c6, key _ _ hg c8, hk, hs2, key _ _ hg c0, key _ _ hg c7, fun j => (hb.frozen (p := ⟨g, j, none⟩) hg).trans (hf j), ?_, ha, hl, hlo, hcp, ⟨key _ _ hs q0, key _ _ hs q1, key _ _ hs q2, key _ _ hs q3, key _ _ hs q4, key _ _ hs q5, key _ _ hs q6, key _ _ hs q7, key _ _ hs q8, key _ _ hs q9, key _ _ hs q10, key _ _ hs q11⟩, hsn, hm⟩
  intro j hj
  obtain ⟨b, off, e, hc⟩ := hr j hj
  exact ⟨b, off, e, key _ _ (hab b off e (by omega)) hc⟩
theorem infoSpan : (Tryd.prog.info? 31).map (fun i => (i.zero, i.size, i.bytes)) = some (some (.agg #[.int .i64 0, .int .i64 0]), 2, 16) := by kernel_rfl
def ResCk (l : List Nat) (m : Nat) (w : World) (e : Ending) (w' : World) : Prop :=
  ∃ sp j y ao c, Ck quoF l m 0 sp j y ∧ e = .returned (.tuple #[.slice ao sp.length c, .agg #[.int .i64 (j : Int), .int .i64 (y : Int)]]) ∧ OwnV w' w.heap.size 31 2 ao sp.length c (spc sp) ∧ Below w.heap.size w w'
/-- what stands at the loop's head -/
structure CkI (w : World) (a : Option Addr) (cap : Nat) (l : List Nat) (m : Nat) (W : World) (k : Nat) (sp : List (Nat × Nat)) (ao : Option Addr) (c : Nat) : Prop where
  vb : VB W (w.heap.size + 1) a cap l m (bk l k) [] false
  own : OwnV W (w.heap.size + 2) 31 2 ao sp.length c (spc sp)
  fb : FB W w.heap.size
  bel : Below w.heap.size w W
  size : w.heap.size + 2 ≤ W.heap.size
  kl : k ≤ l.length
  len : sp.length ≤ k
  clo : ∀ sp' e y, Ck quoF l m k sp' e y → Ck quoF l m 0 (sp ++ sp') e y
theorem FB.dN {W : World} {f : Nat} (h : FB W f) (n : Nat) : FB (W.drewN n) f := h
theorem CkI.dN {w : World} {a : Option Addr} {cap : Nat} {l : List Nat} {m : Nat} {W : World} {k : Nat} {sp : List (Nat × Nat)} {ao : Option Addr} {c : Nat} (h : CkI w a cap l m W k sp ao c) (n : Nat) : CkI w a cap l m (W.drewN n) k sp ao c := ⟨h.vb.dN n, h.own, h.fb, bdN h.bel n, h.size, h.kl, h.len, h.clo⟩
theorem OwnV.low {W : World} {B : Nat} {e : TypeId} {size : Nat} {a : Option Addr} {n cap f : Nat} {xs : List Value} (h : OwnV W B e size a n cap xs) (hf : f < B) (j : Nat) (v : Value) : OwnV (W.setCell ⟨f, j, none⟩ v) B e size a n cap xs := h.gbk (gb_set (gb_refl _ _) j v) hf
/-- the end: what is told -/
theorem ResCk.mk {l : List Nat} {m : Nat} {w W : World} {sp : List (Nat × Nat)} {j y : Nat} {ao : Option Addr} {c n : Nat} {v1 v2 : Int} (hc : Ck quoF l m 0 sp j y) (hn : n = sp.length) (h1 : v1 = (j : Int)) (h2 : v2 = (y : Int)) (ho : OwnV W (w.heap.size + 2) 31 2 ao sp.length c (spc sp)) (hb : Below w.heap.size w W) : ResCk l m w (.returned (.tuple #[.slice ao n c, .agg #[.int .i64 v1, .int .i64 v2]])) W := by
  subst hn h1 h2
  exact ⟨sp, j, y, ao, c, hc, rfl, ho.mono (by omega), hb⟩
theorem fb_set {w W : World} {x y : Value} (h : FB W w.heap.size) : ((W.setCell ⟨w.heap.size, 0, none⟩ x).setCell ⟨w.heap.size, 1, none⟩ y).cell? ⟨w.heap.size, 0, none⟩ = some x ∧ ((W.setCell ⟨w.heap.size, 0, none⟩ x).setCell ⟨w.heap.size, 1, none⟩ y).cell? ⟨w.heap.size, 1, none⟩ = some y := by
  obtain ⟨z0, z1, _⟩ := h
  exact ⟨by simp [go_sem, z0], by simp [go_sem, z1]⟩
theorem most_is (depth : Int) : ∃ m : Nat, m ≤ 200 ∧ min (max depth 0) 200 = (m : Int) := ⟨(min (max depth 0) 200).toNat, by omega, by omega⟩
def mostF (depth : Int) : Nat := (min (max depth 0) 200).toNat
theorem mostF_le (depth : Int) : mostF depth ≤ 200 := by unfold mostF; omega
theorem mostF_is (depth : Int) : min (max depth 0) 200 = (mostF depth : Int) := by unfold mostF; omega
theorem ckFresh {w : World} {a : Option Addr} {cap m : Nat} {l : List Nat} {V : Int} (hV : V = (m : Int)) (hm : m ≤ 200) (hl : l.length ≤ 1000000000000) (hlo : LM.Lo 256 l) (hrd : Rd w .u8 a l) (ht : Sh w) (hcp : l.length ≤ cap) {W : World}
    (hW : W = (w.alloc (.cells #[.int .i64 0, .int .i64 0] 26)).alloc (.cells #[.slice a l.length cap, .int .i64 0, .int .u64 0, .int .u64 0, .int .u64 0, .int .u64 0, .int .i64 0, .int .i64 V, .bool false] 42)) :
    Hid (VB W (w.heap.size + 1) a cap l m 0 [] false) ∧ Hid (FB W w.heap.size) ∧ Hid (Below w.heap.size w W) ∧ Hid (w.heap.size + 2 ≤ W.heap.size) := by
  subst hV
  have hz : (w.alloc (.cells #[.int .i64 0, .int .i64 0] 26)).heap.size = w.heap.size + 1 := by simp
  have hb : Below w.heap.size w W := by rw [hW]; exact ((Below.refl _ _).alloc (Nat.le_refl _) _).alloc (by simp) _
  refine ⟨VB.fresh (w := w) (by omega) hb (fun j v hj => ?_) (fun j => by rw [hW]; simp) (by omega) hlo hcp hrd ht hm, ⟨by rw [hW]; simp, by rw [hW]; simp, fun j => by rw [hW]; simp⟩, hb, Lib.hid (by rw [hW]; simp)⟩
  rw [hW, ← hz, World.cell?_alloc_mark]; exact hj
set_option maxRecDepth 100000 in
set_option maxHeartbeats 4000000 in
theorem Check_any (depth : Int) (a : Option Addr) (cap : Nat) (l : List Nat) (w : World) (hl : l.length ≤ 1000000000000) (hlo : LM.Lo 256 l) (hrd : Rd w .u8 a l) (ht : Sh w) (hcp : l.length ≤ cap) :
    Calls Tryd.prog 8 #[.slice a l.length cap, .int .i64 depth] w (ResCk l (mostF depth) w) := by
  have hab : ∀ b off, a = some ⟨b, off, none⟩ → 0 < l.length → b < w.heap.size + 2 := fun b off e hp => by have := hrd.slot hp b off e; omega
  have hs : 0 < w.heap.size + 2 := by have := lt_of_cell ht.1; simp only at this; omega
  have hb0 : Below w.heap.size w (w.alloc (.cells #[.int .i64 0, .int .i64 0] 26)) := (Below.refl _ _).alloc (Nat.le_refl _) _
  have HM := Lib.hid (mostF_is depth)
  have hm := mostF_le depth
  generalize mostF depth = m at *
  go_enter Tryd.func8, Tryd.ntmps8
  go_upto_region 1 with (fail)
  have FR := Lib.hid (fun (V : Int) hV W hW => ckFresh (w := w) (a := a) (cap := cap) (m := m) (l := l) (V := V) hV hm hl hlo hrd ht hcp (W := W) hW)
  have HAB := Lib.hid hab; have HS := Lib.hid hs
  clear hab hs hlo hcp hrd ht hb0
  go_cut [6] (fun s6 wx => s6 = .pointer (some ⟨w.heap.size + 1, 0, none⟩) ∧ Hid (VB wx (w.heap.size + 1) a cap l m 0 [] false) ∧ Hid (FB wx w.heap.size) ∧ Hid (Below w.heap.size w wx) ∧ Hid (w.heap.size + 2 ≤ wx.heap.size))
  case first =>
    go_wp2_with fail
    all_goals
      go_meet
      exact ⟨rfl, FR.out _ (by have := HM.out; omega) _ rfl⟩
  case rest =>
    obtain ⟨rfl, HVB, HFB, HBL, HSZ⟩ := hcut
    clear HM FR
    have HBk := Lib.hid (blanks_any (w.heap.size + 1) a cap l m 0 [] false _ HVB.out)
    go_wp2_with fail
    refine HBk.out.mono ?_
    rintro e w1 ⟨rfl, hb, hg⟩
    have B1 : Hid (Below w.heap.size w w1) := Lib.hid (HBL.out.trans (gb_below hg HBL.out.size (by omega)))
    have I0 : Hid (CkI w a cap l m w1 0 [] none 0) := Lib.hid ⟨hb, OwnV.nil _ _ _ _, HFB.out.gb hg (by omega), B1.out, Nat.le_trans HSZ.out hg.size, Nat.zero_le _, Nat.le_refl _, fun sp' e y c => c⟩
    clear HBk hb hg B1 HVB HFB HBL HSZ
    go_wp2_with fail
    go_loopw [7] (fun s7 wr => ∃ (k : Nat) (sp : List (Nat × Nat)) (ao : Option Addr) (c : Nat), s7 = .slice ao sp.length c ∧ Hid (CkI w a cap l m wr k sp ao c)) (fun _ wr => l.length - (intOf ((wr.cell? ⟨w.heap.size + 1, 1, none⟩).getD undef)).toNat)
    case atStart => exact ⟨0, [], none, 0, rfl, I0⟩
    case round =>
      obtain ⟨k, sp, ao, c, rfl, HI⟩ := hrel
      clear I0
      have HA := Lib.hid (atEnd_any (w.heap.size + 1) a cap l m (bk l k) [] false wr HI.out.vb)
      by_cases hend : bk l k = l.length
      · rw [decide_eq_true hend] at HA
        have HD := Lib.hid (show Ck quoF l m 0 sp l.length 0 from by have := HI.out.clo _ _ _ (Ck.done hend); rwa [List.append_nil] at this)
        have HI2 := Lib.hid (fun n => HI.out.dN n)
        clear HI
        have HE := Lib.hid hend
        clear hend
        go_wp2_with fail
        refine HA.out.mono ?_
        rintro e w2 ⟨rfl, n, rfl⟩
        have I2 := Lib.hid (HI2.out n)
        clear HI2
        generalize wr.drewN n = w2 at *
        obtain ⟨z0, z1, zf⟩ := I2.out.fb
        obtain ⟨_, c1, _, _, _, cf⟩ := I2.out.vb.cells
        rw [HE.out] at c1
        have hne : ¬ w.heap.size = w.heap.size + 1 := by omega
        have hne2 : ¬ w.heap.size + 1 = w.heap.size := by omega
        have O2 := Lib.hid I2.out.own
        have B2 := Lib.hid I2.out.bel
        go_wp2_with fail
        go_region
        all_goals
          go_wp2
          refine bodyPost_ret (v := .tuple #[.slice ao sp.length c, .agg #[.int .i64 (l.length : Int), .int .i64 0]]) (by simp [results, Tryd.results8, go_sem, z0, z1]) rfl ?_
          exact ResCk.mk HD.out rfl rfl rfl (World.ownsRow.drew ((O2.out.low (by omega) 0 _).low (by omega) 1 _)) (((B2.out.setCell (Nat.le_refl _) _).setCell (Nat.le_refl _) _).drew)
      · rw [decide_eq_false hend] at HA
        have hkl := HI.out.kl
        have hsl := HI.out.len
        have hlt : bk l k < l.length := by have := bk_le hkl; omega
        have HI2 := Lib.hid (fun n => HI.out.dN n)
        have CL := Lib.hid HI.out.clo
        have HM1 : Hid ((intOf ((wr.cell? ⟨w.heap.size + 1, 1, none⟩).getD undef)).toNat = bk l k) := Lib.hid (by rw [HI.out.vb.cells.2.1]; simp [intOf])
        have HKK : Hid (bk l k = bk l k) := Lib.hid rfl
        clear hend HI
        have hbk := bk_ge (l := l) (k := k)
        go_wp2_with fail
        refine HA.out.mono ?_
        rintro e w2 ⟨rfl, n, rfl⟩
        have I2 := Lib.hid (HI2.out n)
        clear HI2 HA
        have CB : Hid (∀ r e sp' f y, bk l k < l.length → (Txt quoF l m (bk l k) r e → r ≠ 6 → Ck quoF l m 0 sp e (whyF l e r)) ∧ (Txt quoF l m (bk l k) 6 e → endB l e = false → Ck quoF l m 0 (sp ++ (if isN (pk l (bk l k)) = true then [] else [(bk l k, e)])) e 1) ∧ (Txt quoF l m (bk l k) 6 e → endB l e = true → Ck quoF l m e sp' f y → Ck quoF l m 0 ((sp ++ [(bk l k, e)]) ++ sp') f y)) := Lib.hid (fun r e sp' f y h => ⟨fun t hr => by have := CL.out _ _ _ (Ck.bad h t hr); rwa [List.append_nil] at this, fun t ha => CL.out _ _ _ (Ck.last h t ha), fun t ha c => by have := CL.out _ _ _ (Ck.next h t ha c); rw [List.append_assoc]; exact this⟩)
        have TA : Hid (∀ r e, Txt quoF l m (bk l k) r e → bk l k ≤ e ∧ e ≤ l.length ∧ (r = 6 → bk l k < e)) := Lib.hid (fun r e t => ⟨Txt.ge quo_ok t, Txt.le quo_ok t (by omega), fun h => by subst h; exact Txt.adv quo_ok t⟩)
        have hnn : isN (pk l (bk l k)) = isN (pk l (bk l k)) := rfl
        clear CL HKK hnn
        generalize wr.drewN n = w2 at *
        have V0 := Lib.hid I2.out.vb
        have HT := Lib.hid (text_any (w.heap.size + 1) a cap l m (bk l k) w2 V0.out)
        have hbyte := V0.out.rd.get V0.out.facts.2.2.1 (bk l k) hlt
        have HBY : Hid (∃ (b off x : Nat), a = some ⟨b, off, none⟩ ∧ x < 256 ∧ isN (pk l (bk l k)) = isN (x : Int) ∧ ∀ W, Rd W .u8 a l → W.cell? ⟨b, off + bk l k, none⟩ = some (.int .u8 (x : Int))) := Lib.hid (by
          obtain ⟨b, off, x, ea, HX, hx, hc⟩ := hbyte
          refine ⟨b, off, x, ea, hx, by rw [HX.out]; unfold QM.pk; rw [if_pos hlt], fun W hr => ?_⟩
          obtain ⟨b', off', e', hc'⟩ := hr (bk l k) hlt
          rw [ea] at e'; cases e'
          rw [hc', HX.out])
        clear hbyte
        obtain ⟨_, c1, _, _, _, cf⟩ := V0.out.cells
        go_wp2_with fail
        clear c1 cf
        refine HT.out.mono ?_
        rintro e w3 ⟨r, j, s, htx, hs6, rfl, hb, hg⟩
        have V2' := Lib.hid hb
        have O2 := Lib.hid (I2.out.own.gbk hg (by omega))
        have F2 := Lib.hid (I2.out.fb.gb hg (by omega))
        have B2 := Lib.hid (I2.out.bel.trans (gb_below hg I2.out.bel.size (by omega)))
        have hz2 : w.heap.size + 2 ≤ w3.heap.size := by have := hg.size; have := I2.out.size; omega
        have HX := Lib.hid htx
        obtain ⟨hkj, hjl, hadv⟩ := TA.out _ _ htx
        clear hb hg TA htx HT V0 I2
        generalize hkk : bk l k = kk at *
        clear hkk
        by_cases hr : r = 6
        · subst hr
          obtain rfl := hs6 rfl
          have V2 : Hid (VB w3 (w.heap.size + 1) a cap l m j [] false) := V2'
          have hadv2 := hadv rfl
          have HA2 := Lib.hid (atEnd_any (w.heap.size + 1) a cap l m j [] false w3 V2.out)
          clear hadv V2' hs6
          have hd : decide (6 = 6) = true := rfl
          rw [hd]
          clear hd
          by_cases hj : j = l.length
          · rw [decide_eq_true hj] at HA2
            have NX : Hid (∀ sp' f y, Ck quoF l m j sp' f y → Ck quoF l m 0 ((sp ++ [(kk, j)]) ++ sp') f y) := Lib.hid (fun sp' f y c => (CB.out 6 j sp' f y hlt).2.2 HX.out (by unfold endB; simp [hj]) c)
            clear hj CB HX HBY
            go_wp2_with fail
            refine HA2.out.mono ?_
            rintro e w4 ⟨rfl, n, rfl⟩
            clear HA2
            have V2n := Lib.hid (V2.out.dN n); have O2n : Hid (OwnV (w3.drewN n) (w.heap.size + 2) 31 2 ao sp.length c (spc sp)) := O2; have F2n := Lib.hid (F2.out.dN n); have B2n := Lib.hid (bdN B2.out n); have hz2n : w.heap.size + 2 ≤ (w3.drewN n).heap.size := hz2
            clear V2 O2 F2 B2 hz2
            generalize w3.drewN n = w5 at *
            have V2 := V2n; have O2 := O2n; have F2 := F2n; have B2 := B2n; have hz2 := hz2n
            clear V2n O2n F2n B2n hz2n
            obtain ⟨_, c1, _, _, _, cf⟩ := V2.out.cells
            go_upto_region 11 with (fail)
            go_wp2_with (first | ((with_reducible refine HBk.out.mono ?_); rintro e w8 ⟨rfl, hb, hg⟩; have HB8 := Lib.hid hb; have HG8 := Lib.hid hg; clear hb hg HBk HFb) | ((with_reducible change wpList _ _ _ _ _ _); refine wp_row _ rfl _ _ 24 rfl (w.heap.size + 2) 31 _ 2 16 Tryd.underlying24 infoSpan rfl (by decide) ao c sp.length _ rfl _ rfl (by intro u hu; simp at hu; rcases hu with rfl | rfl <;> rfl) _ rfl O2.out (by omega) (by unfold maxLen; omega) hz2 ?_; intro ao4 c4 w7 h1 h2 h3; have O7 : Hid (OwnV w7 (w.heap.size + 2) 31 2 ao4 (sp.length + 1) c4 (spc (sp ++ [(kk, j)]))) := Lib.hid (by rw [spc_snoc]; exact h1); have V7 := Lib.hid (V2.out.belowB h2 (by omega) HAB.out HS.out); have F7 := Lib.hid (F2.out.belowB h2 (by omega)); have B7 := Lib.hid (B2.out.trans (h2.mono (by omega))); have z7 := h2.size; clear h1 h2 h3 c1 cf; have HBk := Lib.hid (blanks_any (w.heap.size + 1) _ cap l m j [] false w7 V7.out); have HFb := Lib.hid (vfault_any (w.heap.size + 1) _ cap l m j [] false w7 V7.out)))
            have hbj := bk_ge (l := l) (k := j)
            have I8 : Hid (CkI w _ cap l m w8 j (sp ++ [(kk, j)]) ao4 c4) := Lib.hid ⟨HB8.out, by have := O7.out.gbk HG8.out (by omega); rw [List.length_append, List.length_singleton]; exact this, F7.out.gb HG8.out (by omega), B7.out.trans (gb_below HG8.out B7.out.size (by omega)), by have := HG8.out.size; omega, hjl, by rw [List.length_append, List.length_singleton]; omega, NX.out⟩
            have HM2 : Hid ((intOf ((w8.cell? ⟨w.heap.size + 1, 1, none⟩).getD undef)).toNat = bk l j) := Lib.hid (by rw [HB8.out.cells.2.1]; simp [intOf])
            clear HB8 HG8
            generalize bk l j = jb at *
            go_roundw
            case rel => exact ⟨j, sp ++ [(kk, j)], ao4, c4, by simp, I8⟩
            case measure => simp only [HM2.out, HM1.out]; omega
          · rw [decide_eq_false hj] at HA2
            have hjlt : j < l.length := by omega
            obtain ⟨b, off, y, ea, HY, hy, hcy⟩ := V2.out.rd.get V2.out.facts.2.2.1 j hjlt
            have hpy : pk l j = (y : Int) := by rw [HY.out]; exact if_pos hjlt
            have HIB := Lib.hid (fun w => isBlank_any (y : Int) w)
            have HEB : Hid (endB l j = isB (y : Int)) := Lib.hid (by unfold endB; rw [hpy, decide_eq_false hj]; rfl)
            obtain ⟨b2, off2, x, ea2, hx, hnx, hcx⟩ := HBY.out
            rw [ea] at ea2; cases ea2
            have hcx2 := hcx w3 V2.out.rd
            have HNX := Lib.hid hnx
            have HIN := Lib.hid (fun w => beginsNumber_any (x : Int) w)
            subst ea
            have V2c := V2.out.cells
            obtain ⟨c0, c1, _, _, _, cf⟩ := V2c
            clear hj hpy HBY hnx hcx HY
            go_wp2_with fail
            refine HA2.out.mono ?_
            rintro e w4 ⟨rfl, n, rfl⟩
            clear HA2
            have V2n := Lib.hid (V2.out.dN n); have O2n : Hid (OwnV (w3.drewN n) (w.heap.size + 2) 31 2 ao sp.length c (spc sp)) := O2; have F2n := Lib.hid (F2.out.dN n); have B2n := Lib.hid (bdN B2.out n); have hz2n : w.heap.size + 2 ≤ (w3.drewN n).heap.size := hz2
            have d0 : (w3.drewN n).cell? _ = _ := c0
            have d1 : (w3.drewN n).cell? _ = _ := c1
            have dy : (w3.drewN n).cell? _ = _ := hcy
            have dx : (w3.drewN n).cell? _ = _ := hcx2
            have df : ∀ j, (w3.drewN n).frozen? ⟨w.heap.size + 1, j, none⟩ = false := cf
            clear V2 O2 F2 B2 hz2 c0 c1 cf hcy hcx2
            generalize w3.drewN n = w5 at *
            have V2 := V2n; have O2 := O2n; have F2 := F2n; have B2 := B2n; have hz2 := hz2n
            clear V2n O2n F2n B2n hz2n
            by_cases hb : isB (y : Int) = true
            · rw [hb] at HIB
              have NX : Hid (∀ sp' f y, Ck quoF l m j sp' f y → Ck quoF l m 0 ((sp ++ [(kk, j)]) ++ sp') f y) := Lib.hid (fun sp' f y c => (CB.out 6 j sp' f y hlt).2.2 HX.out (by rw [HEB.out]; exact hb) c)
              clear hb CB HX HEB HIN HNX dx
              go_wp2_with fail
              refine (HIB.out _).mono ?_
              rintro e w6 ⟨rfl, rfl⟩
              clear HIB d0 dy d1 df
              obtain ⟨_, c1, _, _, _, cf⟩ := V2.out.cells
              go_upto_region 11 with (fail)
              go_wp2_with (first | ((with_reducible refine HBk.out.mono ?_); rintro e w8 ⟨rfl, hb, hg⟩; have HB8 := Lib.hid hb; have HG8 := Lib.hid hg; clear hb hg HBk HFb) | ((with_reducible change wpList _ _ _ _ _ _); refine wp_row _ rfl _ _ 24 rfl (w.heap.size + 2) 31 _ 2 16 Tryd.underlying24 infoSpan rfl (by decide) ao c sp.length _ rfl _ rfl (by intro u hu; simp at hu; rcases hu with rfl | rfl <;> rfl) _ rfl O2.out (by omega) (by unfold maxLen; omega) hz2 ?_; intro ao4 c4 w7 h1 h2 h3; have O7 : Hid (OwnV w7 (w.heap.size + 2) 31 2 ao4 (sp.length + 1) c4 (spc (sp ++ [(kk, j)]))) := Lib.hid (by rw [spc_snoc]; exact h1); have V7 := Lib.hid (V2.out.belowB h2 (by omega) HAB.out HS.out); have F7 := Lib.hid (F2.out.belowB h2 (by omega)); have B7 := Lib.hid (B2.out.trans (h2.mono (by omega))); have z7 := h2.size; clear h1 h2 h3 c1 cf; have HBk := Lib.hid (blanks_any (w.heap.size + 1) _ cap l m j [] false w7 V7.out); have HFb := Lib.hid (vfault_any (w.heap.size + 1) _ cap l m j [] false w7 V7.out)))
              have hbj := bk_ge (l := l) (k := j)
              have I8 : Hid (CkI w _ cap l m w8 j (sp ++ [(kk, j)]) ao4 c4) := Lib.hid ⟨HB8.out, by have := O7.out.gbk HG8.out (by omega); rw [List.length_append, List.length_singleton]; exact this, F7.out.gb HG8.out (by omega), B7.out.trans (gb_below HG8.out B7.out.size (by omega)), by have := HG8.out.size; omega, hjl, by rw [List.length_append, List.length_singleton]; omega, NX.out⟩
              have HM2 : Hid ((intOf ((w8.cell? ⟨w.heap.size + 1, 1, none⟩).getD undef)).toNat = bk l j) := Lib.hid (by rw [HB8.out.cells.2.1]; simp [intOf])
              clear HB8 HG8
              generalize bk l j = jb at *
              go_roundw
              case rel => exact ⟨j, sp ++ [(kk, j)], ao4, c4, by simp, I8⟩
              case measure => simp only [HM2.out, HM1.out]; omega
            · have hb' : isB (y : Int) = false := by simpa using hb
              rw [hb'] at HIB
              have HL := Lib.hid ((CB.out 6 j [] 0 0 hlt).2.1 HX.out (by rw [HEB.out]; exact hb'))
              have HFa := Lib.hid (vfault_any (w.heap.size + 1) _ cap l m j [] false w5 V2.out)
              have hwy : whyD l j false = 1 := by unfold whyD; rw [if_neg (by omega)]; rfl
              rw [hwy] at HFa
              clear hb hb' hwy CB HX HEB
              by_cases hn : isN (x : Int) = true
              · rw [hn] at HIN
                have HD : Hid (Ck quoF l m 0 sp j 1) := Lib.hid (by have := HL.out; rw [HNX.out, hn, if_pos rfl, List.append_nil] at this; exact this)
                clear hn HL HNX
                go_wp2_with fail
                refine (HIB.out _).mono ?_
                rintro e w6 ⟨rfl, rfl⟩
                go_wp2_with fail
                refine (HIN.out _).mono ?_
                rintro e w6 ⟨rfl, rfl⟩
                clear HIB HIN d0 dy d1 dx df
                go_wp2_with fail
                refine HFa.out.mono ?_
                rintro e w4 ⟨rfl, hb⟩
                have B3 := Lib.hid (B2.out.trans (hb.mono B2.out.size))
                have O3 := Lib.hid (O2.out.below hb)
                obtain ⟨z0, z1, zf⟩ := F2.out.belowB (B := w5.heap.size) hb (by have := lt_of_cell F2.out.1; simpa using this)
                clear hb HFa
                go_wp2
                refine bodyPost_ret (v := .tuple #[.slice ao sp.length c, .agg #[.int .i64 (j : Int), .int .i64 1]]) (by simp [results, Tryd.results8, go_sem, z0, z1]) rfl ?_
                exact ResCk.mk HD.out (rfl) rfl rfl ((O3.out.low (by omega) 0 _).low (by omega) 1 _) ((B3.out.setCell (Nat.le_refl _) _).setCell (Nat.le_refl _) _)
              · have hn' : isN (x : Int) = false := by simpa using hn
                rw [hn'] at HIN
                have HD : Hid (Ck quoF l m 0 (sp ++ [(kk, j)]) j 1) := Lib.hid (by have := HL.out; rw [HNX.out, hn', if_neg (by decide)] at this; exact this)
                clear hn hn' HL HNX HFa
                go_wp2_with fail
                refine (HIB.out _).mono ?_
                rintro e w6 ⟨rfl, rfl⟩
                go_wp2_with fail
                refine (HIN.out _).mono ?_
                rintro e w6 ⟨rfl, rfl⟩
                clear HIB HIN d0 dy d1 dx df
                obtain ⟨_, c1, _, _, _, cf⟩ := V2.out.cells
                have hwy : whyD l j false = 1 := by unfold whyD; rw [if_neg (by omega)]; rfl
                have HWY := Lib.hid hwy
                clear hwy
                go_upto_region 11 with (fail)
                go_wp2_with (first | ((with_reducible refine HFc.out.mono ?_); rintro e w8 ⟨rfl, hb⟩; have HB8 := Lib.hid hb; obtain ⟨z0, z1, zf⟩ := F7.out.belowB (B := w7.heap.size) hb (by have := lt_of_cell F7.out.1; simpa using this); clear hb HFc) | (((with_reducible change wpList _ _ _ _ _ _); refine wp_row _ rfl _ _ 24 rfl (w.heap.size + 2) 31 _ 2 16 Tryd.underlying24 infoSpan rfl (by decide) ao c sp.length _ rfl _ rfl (by intro u hu; simp at hu; rcases hu with rfl | rfl <;> rfl) _ rfl O2.out (by omega) (by unfold maxLen; omega) hz2 ?_; intro ao4 c4 w7 h1 h2 h3; have O7 : Hid (OwnV w7 (w.heap.size + 2) 31 2 ao4 (sp.length + 1) c4 (spc (sp ++ [(kk, j)]))) := Lib.hid (by rw [spc_snoc]; exact h1); have V7 := Lib.hid (V2.out.belowB h2 (by omega) HAB.out HS.out); have F7 := Lib.hid (F2.out.belowB h2 (by omega)); have B7 := Lib.hid (B2.out.trans (h2.mono (by omega))); have z7 := h2.size; clear h1 h2 h3 c1 cf; have HBk := Lib.hid (blanks_any (w.heap.size + 1) _ cap l m j [] false w7 V7.out); have HFb := Lib.hid (vfault_any (w.heap.size + 1) _ cap l m j [] false w7 V7.out)); have HFc := HFb; rw [HWY.out] at HFc; clear HFb HBk))
                have B3 := Lib.hid (B7.out.trans (HB8.out.mono B7.out.size))
                have O3 := Lib.hid (O7.out.below HB8.out)
                refine bodyPost_ret (v := .tuple #[.slice ao4 (sp.length + 1) c4, .agg #[.int .i64 (j : Int), .int .i64 1]]) (by simp [results, Tryd.results8, go_sem, z0, z1]) rfl ?_
                exact ResCk.mk HD.out (by simp) rfl rfl (OwnV.low (f := w.heap.size) (OwnV.low (f := w.heap.size) (by have := O3.out; simpa using this) (by omega) 0 _) (by omega) 1 _) ((B3.out.setCell (Nat.le_refl _) _).setCell (Nat.le_refl _) _)
        · have HD := Lib.hid ((CB.out r j [] 0 0 hlt).1 HX.out hr)
          have HW : whyF l j r = whyD l j (decide (r = 8)) := by
            unfold whyF whyD
            by_cases h : j = l.length
            · rw [if_pos h, if_pos h]
            · rw [if_neg h, if_neg h]; simp only [decide_eq_true_eq]
          rw [HW] at HD
          have HFa := Lib.hid (vfault_any (w.heap.size + 1) a cap l m j s _ w3 V2'.out)
          generalize whyD l j (decide (r = 8)) = yy at *
          have hd : decide (r = 6) = false := decide_eq_false hr
          rw [hd]
          clear hd hr HW CB HBY hs6 hadv V2'
          go_wp2_with fail
          refine HFa.out.mono ?_
          rintro e w4 ⟨rfl, hb⟩
          have B3 := Lib.hid (B2.out.trans (hb.mono B2.out.size))
          have O3 := Lib.hid (O2.out.below hb)
          obtain ⟨z0, z1, zf⟩ := F2.out.belowB (B := w3.heap.size) hb (by have := lt_of_cell F2.out.1; simpa using this)
          clear hb HFa
          go_wp2
          refine bodyPost_ret (v := .tuple #[.slice ao sp.length c, .agg #[.int .i64 (j : Int), .int .i64 (yy : Int)]]) (by simp [results, Tryd.results8, go_sem, z0, z1]) rfl ?_
          exact ResCk.mk HD.out (rfl) rfl rfl ((O3.out.low (by omega) 0 _).low (by omega) 1 _) ((B3.out.setCell (Nat.le_refl _) _).setCell (Nat.le_refl _) _)
end Go.Proofs.YtefaieglhllioaaDoor
