/- marks: Brackets walked. -/
import Derived.Test.YtibgejndlllhfaaDoorMarB
import Derived.Test.YtibgejndlllhfaaDoorMarK
import Derived.Test.YtibgejndlllhfaaDoorMarMathB
namespace Go.Proofs.YtibgejndlllhfaaDoor
open Go.RowKit BM

/-- a box of a word of masks -/
def MbB (w : World) (b : Nat) (x : MS) : Prop := ∃ f, w.heap[b]? = some (.cells #[.int .u64 (val x.q), .int .u64 (val x.n), .int .u64 (val x.o), .int .u64 (val x.c), .int .u64 (val x.k), .int .u64 (val x.m), .int .u64 (val x.s)] 49 f)
theorem MbB.mx {w : World} {b : Nat} {x : MS} (h : Hid (MbB w b x)) : Hid (Mx w b x.q x.n x.o x.c x.k x.m x.s) := by
  obtain ⟨f, hf⟩ := h.out
  exact Lib.hid ⟨by simp [World.cell?, hf], by simp [World.cell?, hf], by simp [World.cell?, hf], by simp [World.cell?, hf], by simp [World.cell?, hf], by simp [World.cell?, hf], by simp [World.cell?, hf]⟩
theorem MbB.mk (W : World) (x : MS) (f : Nat × Nat) : Hid (MbB (W.alloc (.cells #[.int .u64 (val x.q), .int .u64 (val x.n), .int .u64 (val x.o), .int .u64 (val x.c), .int .u64 (val x.k), .int .u64 (val x.m), .int .u64 (val x.s)] 49 f)) W.heap.size x) := Lib.hid ⟨f, heap_alloc_new W _⟩
theorem MbB.lt {w : World} {b : Nat} {x : MS} (h : Hid (MbB w b x)) : b < w.heap.size := by
  obtain ⟨f, hf⟩ := h.out
  exact (Array.getElem?_eq_some_iff.1 hf).1
theorem MbB.below {w w' : World} {b : Nat} {x : MS} (h : Hid (MbB w b x)) (hb : Below w.heap.size w w') : Hid (MbB w' b x) := by
  obtain ⟨f, hf⟩ := h.out
  exact Lib.hid ⟨f, by rw [hb.block b (MbB.lt h)]; exact hf⟩
theorem MbB.oth {w w' : World} {b : Nat} {x : MS} {a : Option Addr} (h : Hid (MbB w b x)) (ho : Oth w w' a) (ha : a ≠ some ⟨b, 0, none⟩) : Hid (MbB w' b x) := by
  obtain ⟨f, hf⟩ := h.out
  exact Lib.hid ⟨f, by rw [ho.2 b (MbB.lt h) ha]; exact hf⟩
theorem MbB.apart {w : World} {b : Nat} {x : MS} {B : Nat} {e : TypeId} {size : Nat} {a : Option Addr} {n cap : Nat} {xs : List Value} (h : Hid (MbB w b x)) (ho : OwnV w B e size a n cap xs) (hne : 49 ≠ e) : a ≠ some ⟨b, 0, none⟩ := by
  obtain ⟨f, hf⟩ := h.out
  exact ho.apart hf hne
theorem infoU64 : (Tryd.prog.info? 46).map (fun i => (i.zero, i.size, i.bytes)) = some (some (.int .u64 0), 1, 8) := by kernel_rfl
def ResBr (L : List Bool) (w : World) (e : Ending) (w' : World) : Prop :=
  ∃ ao cp, e = .returned (.tuple #[.slice ao (nw L.length) cp, .int .i64 L.length]) ∧ OwnV w' w.heap.size 46 1 ao (nw L.length) cp (cs .u64 (pkn L (nw L.length))) ∧ Below w.heap.size w w'
/-- what the loops know -/
def BrI (B : Nat) (w wr : World) (L : List Bool) (s4 s5 : Value) : Prop :=
  ∃ ao cp, s4 = .slice ao (nw L.length) cp ∧ s5 = .int .i64 L.length ∧ Hid (OwnV wr B 46 1 ao (nw L.length) cp (cs .u64 (pkn L (nw L.length)))) ∧ Hid (Below B w wr)
set_option maxRecDepth 100000 in
set_option maxHeartbeats 2000000 in
theorem Brackets_any (a : Option Addr) (cap : Nat) (xs : List MS) (len : Int) (w : World) (hT : Tb w) (hr : RdM w a xs) (hn : xs.length ≤ 2600000000000) :
    Calls Tryd.prog 20 #[.agg #[.slice a xs.length cap, .int .i64 len]] w (ResBr (brs xs) w) := by
  have HT := Lib.hid hT
  have HR := Lib.hid hr
  clear hT hr
  go_enter Tryd.func20, Tryd.ntmps20
  go_wp2_with fail
  have B0 := Lib.hid ((Below.refl w.heap.size w).alloc (Nat.le_refl _) (.cells #[.slice a xs.length cap, .int .i64 len] 27))
  generalize w.alloc (.cells #[.slice a xs.length cap, .int .i64 len] 27) = w0 at *
  go_loopw [4, 5, 13] (fun s4 s5 s13 wr => ∃ k : Nat, k ≤ xs.length ∧ s13 = .int .i64 k ∧ BrI w.heap.size w wr (brs (xs.take k)) s4 s5) (fun _ _ s13 _ => xs.length - (intOf s13).toNat)
  case atStart => exact ⟨0, by omega, rfl, none, 0, by rw [List.take_zero, brs_nil]; rfl, by rw [List.take_zero, brs_nil]; rfl, Lib.hid (by rw [List.take_zero, brs_nil]; exact OwnV.nil _ _ _ _), B0⟩
  case round =>
    obtain ⟨k, hk, rfl, ao, cp, rfl, rfl, HO, BR⟩ := hrel
    by_cases hlt : k < xs.length
    · obtain ⟨x, hx⟩ : ∃ x, xs[k]? = some x := ⟨_, List.getElem?_eq_getElem hlt⟩
      have HX := Lib.hid hx
      obtain ⟨b, off, rfl, hm⟩ := (HR.out.below BR.out) k x hx
      obtain ⟨m0, m1, m2, m3, m4, m5, m6⟩ := hm
      clear hx
      go_upto_region 6 with (fail)
      clear m0 m1 m2 m3 m4 m5 m6
      have M1 := MbB.mk wr x (0, 0)
      have bz := (Below.refl wr.heap.size wr).alloc (Nat.le_refl _) (.cells #[.int .u64 (val x.q), .int .u64 (val x.n), .int .u64 (val x.o), .int .u64 (val x.c), .int .u64 (val x.k), .int .u64 (val x.m), .int .u64 (val x.s)] 49)
      have BR1 := Lib.hid (BR.out.trans (bz.mono BR.out.size))
      have HO1 := Lib.hid (HO.out.below bz)
      have hsz : wr.heap.size < (wr.alloc (.cells #[.int .u64 (val x.q), .int .u64 (val x.n), .int .u64 (val x.o), .int .u64 (val x.c), .int .u64 (val x.k), .int .u64 (val x.m), .int .u64 (val x.s)] 49)).heap.size := by simp
      generalize wr.alloc (.cells #[.int .u64 (val x.q), .int .u64 (val x.n), .int .u64 (val x.o), .int .u64 (val x.c), .int .u64 (val x.k), .int .u64 (val x.m), .int .u64 (val x.s)] 49) = w1 at *
      clear bz HO BR
      generalize wr.heap.size = mb at *
      obtain ⟨m0, m1, m2, m3, m4, m5, m6⟩ := (MbB.mx M1).out
      have HBR : Hid (bits .or .u64 (val x.o) (val x.c) = val (hiB x.br 0)) := Lib.hid (by rw [u_or, hiB_zero]; rfl)
      have hpl : (brs (xs.take k)).length ≤ 64 * k := by have := brs_length (xs.take k); simp at this; omega
      have HP0 : Hid (brs (xs.take k) = brs (xs.take k) ++ bw x 0) := Lib.hid (by simp [bw, pick_zero])
      have HPE : Hid (brs (xs.take (k + 1)) = brs (xs.take k) ++ bw x 64) := Lib.hid (by rw [take_snoc HX.out, brs_snoc])
      go_wp2_with fail
      clear m0 m1 m2 m3 m4 m5 m6
      go_loopw [4, 5, 8] (fun s4 s5 s8 wq => ∃ j : Nat, j ≤ 64 ∧ s8 = .int .u64 (val (hiB x.br j)) ∧ BrI w.heap.size w wq (brs (xs.take k) ++ bw x j) s4 s5 ∧ Hid (MbB wq mb x)) (fun _ _ s8 _ => (intOf s8).toNat)
      case atStart => exact ⟨0, by omega, by rw [HBR.out], by rw [← HP0.out]; exact ⟨ao, cp, rfl, rfl, HO1, BR1⟩, M1⟩
      case round =>
        obtain ⟨j, hj, rfl, ⟨ao1, cp1, rfl, rfl, HO2, BR2⟩, M2⟩ := hrel
        have hbl : (bw x j).length ≤ j := pick_length _ _ _
        obtain ⟨L, hL⟩ : ∃ L, brs (xs.take k) ++ bw x j = L := ⟨_, rfl⟩
        have hLl : L.length ≤ 166400000000064 := by rw [← hL, List.length_append]; omega
        rw [hL] at HO2 ⊢
        have HL := Lib.hid hL
        clear hL
        by_cases hz : hiB x.br j = 0#64
        · have hv : val (hiB x.br j) = 0 := by rw [hz]; rfl
          have HE : Hid (brs (xs.take (k + 1)) = L) := Lib.hid (by rw [HPE.out, ← HL.out]; congr 1; exact pick_none hj (hiB_none hz))
          generalize val (hiB x.br j) = fv at *
          subst hv
          clear hz
          go_wp2
          go_roundw
          case rel => exact ⟨k + 1, by omega, by go_num, by rw [HE.out]; exact ⟨ao1, cp1, rfl, rfl, HO2, BR2⟩⟩
          case measure => simp [intOf]; omega
        · obtain ⟨n1, n2, n3, n4, n5⟩ := hiB_next hz
          have HZ := Lib.hid hz
          have HLO := Lib.hid n1
          have HLT := Lib.hid (lowB_lt hz)
          have HB4 : Hid (bitAt x.br (tz (hiB x.br j)) = true) := Lib.hid n4
          have HN : Hid (brs (xs.take k) ++ bw x (tz (hiB x.br j) + 1) = L ++ [bitAt x.o (tz (hiB x.br j))]) := Lib.hid (by rw [← HL.out, List.append_assoc]; congr 1; exact pick_next n2 n4 n5)
          have HTZ := Lib.hid (fun w hT => tz_any (hiB x.br j) hz w hT)
          have hv : val (hiB x.br j) ≠ 0 := by rw [i_0]; intro e; exact hz (by have := u_eq (hiB x.br j) 0#64; rw [e] at this; simpa using this.symm)
          clear n1 n4 n5 hz
          go_upto_if 30 with (fail)
          go_cut [4] (fun s4 wx => ∃ ao2 cp2, s4 = .slice ao2 (L.length / 64 + 1) cp2 ∧ Hid (OwnV wx w.heap.size 46 1 ao2 (L.length / 64 + 1) cp2 (cs .u64 (pkn L (L.length / 64 + 1)))) ∧ Hid (Below w.heap.size w wx) ∧ Hid (MbB wx mb x))
          case first =>
            have hBz := BR2.out.size
            by_cases hc : L.length % 64 = 0
            · have hc2 : (L.length : Int) % 64 = 0 := by omega
              have HC := Lib.hid hc
              have HA := Lib.hid (MbB.apart M2 HO2.out (by decide))
              clear hc
              go_wp2_with (refine wp_row _ rfl _ _ 40 rfl w.heap.size 46 (.int .u64 0) 1 8 Tryd.underlying40 infoU64 rfl (by decide) ao1 cp1 (nw L.length) _ rfl _ rfl (by simp [Value.oneCell']) _ rfl HO2.out (by unfold nw; omega) (by unfold nw maxLen; omega) hBz ?_; intro ao' cap' w' h1 h2 h3; have H1 := Lib.hid h1; have H2 := Lib.hid h2; have H3 := Lib.hid h3; clear h1 h2 h3)
              go_meet
              have e := nw_yes HC.out
              have h1 := H1.out
              rw [show cs .u64 (pkn L (nw L.length)) ++ (#[Value.int .u64 0] : Array Value).toList = cs .u64 (pkn L (nw L.length) ++ [0]) by rw [cs_append]; rfl, pkn_room HC.out, e] at h1
              exact ⟨ao', cap', by rw [← e], Lib.hid h1, Lib.hid (BR2.out.trans H2.out), MbB.oth M2 H3.out HA.out⟩
            · have hc2 : ¬ (L.length : Int) % 64 = 0 := by omega
              have HC := Lib.hid hc
              clear hc
              go_wp2
              go_meet
              have e := nw_no HC.out
              exact ⟨ao1, cp1, by rw [← e], by rw [← e]; exact HO2, BR2, M2⟩
          case rest =>
            obtain ⟨ao2, cp2, rfl, HO3, BR3, M3⟩ := hcut
            obtain ⟨g, cur, rfl, hBg, hgb, hcap⟩ : ∃ g cur, ao2 = some ⟨g, 0, none⟩ ∧ w.heap.size ≤ g ∧ wc.heap[g]? = some (.cells cur 46 (0, 0)) ∧ L.length / 64 + 1 ≤ cp2 := by
              rcases HO3.out.shape with ⟨_, _, h, _⟩ | ⟨g, cur, h1, h2, h3, h4, _⟩
              · omega
              · exact ⟨g, cur, h1, h2, h3, h4⟩
            go_upto_region 11 with (fail)
            obtain ⟨m0, m1, m2, m3, m4, m5, m6⟩ := (MbB.mx M3).out
            go_quiet ((go_at_call 29; first | exact still (HTZ.out _ ((HT.out.below BR3.out).dN _)) | exact still2 (HTZ.out _ ((HT.out.below BR3.out).dN _))))
            clear m0 m1 m2 m3 m4 m5 m6
            go_upto_region 12 with (fail)
            have HO4 : Hid (OwnV (wc.drewN nq) w.heap.size 46 1 (some ⟨g, 0, none⟩) (L.length / 64 + 1) cp2 (cs .u64 (pkn L (L.length / 64 + 1)))) := HO3
            have BR4 : Hid (Below w.heap.size w (wc.drewN nq)) := Lib.hid (bdN BR3.out nq)
            have M4 : Hid (MbB (wc.drewN nq) mb x) := M3
            generalize wc.drewN nq = wd at *
            clear HO3 BR3 M3 hgb
            rw [opens_val]
            have hc0 : wd.cell? ⟨g, L.length / 64, none⟩ = some (.int .u64 (val (wb L (L.length / 64)))) := HO4.out.cellAt (by rw [cs_get (by rw [pkn_length]; omega), pkn_get _ (by omega)]; rfl)
            have hf0 : wd.frozen? ⟨g, L.length / 64, none⟩ = false := HO4.out.frozen _
            have HNE := Lib.hid (MbB.apart M4 HO4.out (by decide))
            generalize bitAt x.o (tz (hiB x.br j)) = bb at *
            have HST : Hid (bits .or .u64 (val (wb L (L.length / 64))) (IntKind.u64.wrap (val (bit0 bb) * 2 ^ (L.length % 64))) = val (wb L (L.length / 64) ||| (bit0 bb <<< (L.length % 64)))) := Lib.hid (by rw [u_shl, u_or])
            go_region
            rw [HST.out]
            clear hc0 hf0
            have HO5 : Hid (OwnV ((wd.setCell ⟨g, L.length / 64, none⟩ (.int .u64 (val (wb L (L.length / 64) ||| (bit0 bb <<< (L.length % 64)))))).drew) w.heap.size 46 1 (some ⟨g, 0, none⟩) (nw (L ++ [bb]).length) cp2 (cs .u64 (pkn (L ++ [bb]) (nw (L ++ [bb]).length)))) := Lib.hid (by
              have h := HO4.out.set (L.length / 64) (.int .u64 (val (wb L (L.length / 64) ||| (bit0 bb <<< (L.length % 64)))))
              rw [show (val (wb L (L.length / 64) ||| (bit0 bb <<< (L.length % 64)))) = ((wb L (L.length / 64) ||| (bit0 bb <<< (L.length % 64))).toNat : Int) from rfl, ← cs_set, pkn_set] at h
              rw [show (L ++ [bb]).length = L.length + 1 by simp, nw_succ]
              exact h)
            have BR5 : Hid (Below w.heap.size w ((wd.setCell ⟨g, L.length / 64, none⟩ (.int .u64 (val (wb L (L.length / 64) ||| (bit0 bb <<< (L.length % 64)))))).drew)) := Lib.hid ((BR4.out.setCell hBg _).drew)
            have M5 : Hid (MbB ((wd.setCell ⟨g, L.length / 64, none⟩ (.int .u64 (val (wb L (L.length / 64) ||| (bit0 bb <<< (L.length % 64)))))).drew) mb x) := MbB.oth M4 (Oth.setCell wd g (L.length / 64) _) HNE.out
            generalize (wd.setCell ⟨g, L.length / 64, none⟩ (.int .u64 (val (wb L (L.length / 64) ||| (bit0 bb <<< (L.length % 64)))))).drew = we at *
            have HLW := Lib.hid (u_low (hiB x.br j))
            have hLL : (L ++ [bb]).length = L.length + 1 := by simp
            have HLL := Lib.hid hLL
            clear hLL hcap hBg
            have hln : (L.length : Int) + 1 ≤ 9223372036854775807 := by omega
            go_wp2
            go_roundw
            case rel => exact ⟨tz (hiB x.br j) + 1, by omega, by rw [HLW.out, HLO.out], by rw [HN.out]; exact ⟨some ⟨g, 0, none⟩, cp2, by rw [HLL.out, nw_succ], by rw [HLL.out]; rfl, HO5, BR5⟩, M5⟩
            case measure =>
              rw [HLW.out]
              simp [intOf, val]
              exact HLT.out
    · have HE : Hid (brs (xs.take k) = brs xs) := Lib.hid (by rw [List.take_of_length_le (by omega)])
      rw [HE.out] at HO
      go_wp2
      go_ret2
      exact ⟨ao, cp, by rw [HE.out]; rfl, HO.out, BR.out⟩
end Go.Proofs.YtibgejndlllhfaaDoor
