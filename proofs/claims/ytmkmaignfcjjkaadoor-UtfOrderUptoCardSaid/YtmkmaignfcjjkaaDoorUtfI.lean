/- Cmp and Implode of the program. -/
import Derived.Test.YtmkmaignfcjjkaaDoorUtfG
import Derived.Test.YtmkmaignfcjjkaaDoorUtfH
namespace Go.Proofs.YtmkmaignfcjjkaaDoor
open Go.RowKit UM

theorem cmpL_range : ∀ a b : List Nat, cmpL a b = -1 ∨ cmpL a b = 0 ∨ cmpL a b = 1
  | [], [] => .inr (.inl rfl)
  | [], _ :: _ => .inl rfl
  | _ :: _, [] => .inr (.inr rfl)
  | a :: x, b :: y => by
    simp only [cmpL]
    split
    · exact .inl rfl
    · split
      · exact .inr (.inr rfl)
      · exact cmpL_range x y
def ResC (v : Int) (w : World) (r : Ending) (w' : World) : Prop := r = .returned (.int .i64 v) ∧ Below w.heap.size w w'
set_option maxHeartbeats 8000000 in
theorem Cmp_any (s t : ByteArray) (w : World) (hs : s.size ≤ 140737488351232) (htz : t.size ≤ 140737488351232) (ht : Sh w) : Calls Tryd.prog 25 #[.string s, .string t] w (ResC (cmpL (xp (bl s)) (xp (bl t))) w) := by
  have HT := Lib.hid ht
  clear ht
  go_enter Tryd.func25, Tryd.ntmps25
  go_wp2
  go_loopw [5] (fun v5 wr => ∃ (pos : Nat) (R : ByteArray), v5 = .string R ∧ R.size ≤ 140737488351232 ∧ UI s w.heap.size w w.heap.size 3 .i64 wr pos none 0 [] ∧ Hid (cmpL (xp (bl s)) (xp (bl t)) = cmpL (xp ((bl s).drop pos)) (xp (bl R)))) (fun _ wr => s.size - wr.iterPos w.heap.size)
  case atStart =>
    exact ⟨0, t, rfl, htz, ⟨World.iter_heap w s 0, Own.nilNone _ _ _ _, (Below.refl _ _).alloc (Nat.le_refl _) _, Nat.le_refl _, Nat.le_refl _⟩, Lib.hid rfl⟩
  case round =>
    obtain ⟨pos, R, rfl, hR, I, HX⟩ := hrel
    by_cases hp : pos < s.size
    · obtain ⟨c, wd, hd, _, hc, hw1, hw2, _, hx⟩ := next_pt s pos hp
      have hnx : ∀ ty, (Instr.next (.pointer (some ⟨w.heap.size, 0, none⟩)) true ty).run Tryd.prog wr = _ := fun ty => Lib.run_next_any_at wr w.heap.size s pos ty I.it hp
      rw [hd.out] at hnx
      simp only at hnx
      have I2 := I.iter (pos + wd)
      have HIT := Lib.hid I.it
      have hD := Decode_any R (wr.iterAt w.heap.size s (pos + wd)) hR (HT.out.below I2.bw)
      clear I
      rcases Nat.eq_zero_or_pos R.size with h0 | h0
      · have hRn := size0 h0
        subst hRn
        have HD := Lib.hid hD
        have HE : Hid (cmpL (xp (bl s)) (xp (bl t)) = 1) := Lib.hid (by rw [HX.out, hx.out]; rfl)
        clear hD
        go_wp2_with fail
        refine HD.out.mono ?_
        rintro r w2 ⟨rfl, n2, rfl⟩
        have HB := Lib.hid (bdN I2.bw n2)
        have e1 : (dcd (bl ⟨#[]⟩)).2.1 = 0 := rfl
        clear I2 HD
        rw [e1]
        clear e1
        go_wp2
        go_ret
        exact ⟨ret_int (by rw [HE.out]), HB.out⟩
      · obtain ⟨p, m, hd2, hdd2, hc2, hm1, hm2, _, hx2⟩ := next_pt R 0 h0
        rw [List.drop_zero, Nat.zero_add] at hx2
        rw [List.drop_zero] at hdd2
        rw [Nat.zero_add] at hm2
        unfold ResDec at hD
        rw [hdd2.out] at hD
        simp only at hD
        generalize (dcd (bl R)).2.2 = bb at hD
        have HD := Lib.hid hD
        have hm0 : ((m : Int) == 0) = false := by simp; omega
        have hm4 : ¬ (m : Int) = 0 := by omega
        have hcm := fun W => Compare_any (c : Int) (p : Int) W
        have hC : cmpL (xp (bl s)) (xp (bl t)) = if cmpI c p = 0 then cmpL (xp ((bl s).drop (pos + wd))) (xp ((bl R).drop m)) else cmpI c p := by
          rw [HX.out, hx.out, hx2.out]
          simp only [cmpL]
          unfold cmpI
          rcases Nat.lt_trichotomy c p with h | h | h
          · rw [if_pos h, if_pos (by omega : (c : Int) < p), if_neg (by omega)]
          · subst h
            simp
          · rw [if_neg (by omega), if_pos h, if_neg (by omega), if_pos (by omega : (p : Int) < c), if_neg (by omega)]
        generalize cmpI (c : Int) (p : Int) = o at *
        have HCM := Lib.hid hcm
        have HC := Lib.hid hC
        clear hD hcm hC
        by_cases ho : o = 0
        · have HE := Lib.hid (HC.out.trans (if_pos ho))
          subst ho
          clear HC
          go_wp2_with fail
          refine HD.out.mono ?_
          rintro r w2 ⟨rfl, n2, rfl⟩
          have I3 := I2.dN n2
          clear I2 HD
          go_wp2_with fail
          refine (HCM.out _).mono ?_
          rintro r w3 ⟨rfl, rfl⟩
          clear HCM
          go_wp2
          go_roundw
          case rel => exact ⟨pos + wd, R.extract m R.size, rfl, by rw [extract_size]; omega, I3, Lib.hid (by rw [HE.out, bl_extract])⟩
          case measure => exact it_less HIT.out I3.it hp (by omega)
        · have HE := Lib.hid (HC.out.trans (if_neg ho))
          have h1 : (o != 0) = true := by simp; exact ho
          clear HC
          go_wp2_with fail
          refine HD.out.mono ?_
          rintro r w2 ⟨rfl, n2, rfl⟩
          have HB := Lib.hid (bdN I2.bw n2)
          clear I2 HD
          go_wp2_with fail
          refine (HCM.out _).mono ?_
          rintro r w3 ⟨rfl, rfl⟩
          clear HCM
          go_wp2
          go_ret
          exact ⟨ret_int (by rw [HE.out]), HB.out⟩
    · have hnx : ∀ ty, (Instr.next (.pointer (some ⟨w.heap.size, 0, none⟩)) true ty).run Tryd.prog wr = _ := fun ty => Lib.run_next_end_at wr w.heap.size s pos ty I.it hp
      have hE : cmpL (xp (bl s)) (xp (bl t)) = cmpI 0 (R.size : Int) := by
        rw [HX.out, List.drop_of_length_le (by rw [bl_len]; omega), xp_nil]
        unfold cmpI
        rcases Nat.eq_zero_or_pos R.size with h0 | h0
        · rw [size0 h0]; rfl
        · have hne : bl R ≠ [] := by
            intro e
            have := congrArg List.length e
            rw [bl_len, List.length_nil] at this
            omega
          rw [xp_cons hne, if_pos (by omega)]; rfl
      have hcm := fun W => Compare_any 0 (R.size : Int) W
      rw [← hE] at hcm
      have HCM := Lib.hid hcm; have HB := Lib.hid I.bw
      clear I hE hcm
      go_wp2_with fail
      refine (HCM.out _).mono ?_
      rintro r w3 ⟨rfl, rfl⟩
      go_wp2
      go_ret
      exact ⟨rfl, HB.out⟩

/-- the slice at a reads as l (whole numbers, of either sign) -/
def RdI (w : World) (a : Option Addr) (l : List Int) : Prop :=
  ∀ j, j < l.length → ∃ b off, a = some ⟨b, off, none⟩ ∧ w.cell? ⟨b, off + j, none⟩ = some (.int .i64 (l[j]?.getD 0))
theorem RdI.below {w w' : World} {a : Option Addr} {l : List Int} (h : RdI w a l) (hb : Below w.heap.size w w') : RdI w' a l := by
  intro j hj
  obtain ⟨b, off, e, hc⟩ := h j hj
  exact ⟨b, off, e, by rw [hb.cell (lt_of_cell hc)]; exact hc⟩
def allPt (l : List Int) : Bool := l.all isPt
def toN (l : List Int) : List Nat := l.map Int.toNat
theorem toN_pts {l : List Int} (h : allPt l = true) : ∀ p ∈ toN l, Pt p := by
  intro p hp
  unfold toN at hp
  obtain ⟨x, hx, rfl⟩ := List.mem_map.1 hp
  have h1 := List.all_eq_true.1 h x hx
  unfold isPt at h1
  have h2 := of_decide_eq_true h1
  unfold Pt; omega
def ResI (l : List Int) (w : World) (r : Ending) (w' : World) : Prop := (r = .returned (.tuple #[.string (if allPt l = true then tx (encL (toN l)) else ⟨#[]⟩), .int .i64 (if allPt l = true then 0 else 1)])) ∧ Below w.heap.size w w'
theorem all_no {l : List Int} {k : Nat} (hk : k < l.length) (h : isPt (l[k]?.getD 0) = false) : allPt l = false := by
  unfold allPt
  rw [List.all_eq_false]
  refine ⟨l[k], List.getElem_mem hk, ?_⟩
  rw [List.getElem?_eq_getElem hk, Option.getD_some] at h
  rw [h]; exact Bool.false_ne_true
theorem all_step {l : List Int} {k : Nat} (hk : k < l.length) (h0 : allPt (l.take k) = true) (h : isPt (l[k]?.getD 0) = true) : allPt (l.take (k + 1)) = true := by
  rw [List.getElem?_eq_getElem hk, Option.getD_some] at h
  unfold allPt at h0 ⊢
  rw [List.take_succ_eq_append_getElem hk, List.all_append, h0]
  simp [h]
theorem toN_step {l : List Int} {k : Nat} (hk : k < l.length) : toN (l.take (k + 1)) = toN (l.take k) ++ [(l[k]?.getD 0).toNat] := by
  unfold toN
  rw [List.take_succ_eq_append_getElem hk, List.map_append, List.getElem?_eq_getElem hk]; rfl
set_option maxHeartbeats 8000000 in
theorem Implode_any (a0 : Option Addr) (c0 : Nat) (l : List Int) (w : World) (hl : l.length ≤ 17592186044416) (hr : RdI w a0 l) (ht : Sh w) : Calls Tryd.prog 23 #[.slice a0 l.length c0] w (ResI l w) := by
  have HT := Lib.hid ht
  have HR := Lib.hid hr
  clear ht hr
  go_enter Tryd.func23, Tryd.ntmps23
  go_wp2_with (at_make; refine wp_make0 _ rfl _ _ 53 rfl w.heap.size 5 .u8 1 Tryd.underlying53 infoU8 _ _ _ l.length rfl rfl (by omega) (by omega) (by unfold maxLen; omega) (Nat.le_refl _) ?_)
  intro w1 ho1 hb1
  have HO := Lib.hid ho1; have HB := Lib.hid hb1
  clear ho1 hb1
  go_wp2
  go_loopw [4, 12] (fun v4 v12 wr => ∃ (k : Nat) (ao : Option Addr) (cap n : Nat), k ≤ l.length ∧ v12 = .int .i64 k ∧ v4 = .slice ao n cap ∧ Hid (n = (encL (toN (l.take k))).length) ∧ Own wr w.heap.size 5 .u8 ao cap (encL (toN (l.take k))) ∧ Below w.heap.size w wr ∧ Hid (allPt (l.take k) = true)) (fun _ v12 _ => l.length - (intOf v12).toNat)
  case atStart =>
    exact ⟨0, _, _, 0, Nat.zero_le _, rfl, rfl, Lib.hid rfl, HO.out, HB.out, Lib.hid rfl⟩
  case round =>
    clear HO HB
    obtain ⟨k, ao, cap, n, hk, rfl, rfl, hn, ho, hb, hA⟩ := hrel
    by_cases hlt : k < l.length
    · obtain ⟨bb, off, rfl, hcell⟩ := HR.out.below hb k hlt
      obtain ⟨p, hp⟩ : ∃ p, p = l[k]?.getD 0 := ⟨_, rfl⟩
      rw [← hp] at hcell
      have hI := fun W => isPoint_any p W
      have HPP := Lib.hid hp
      clear hp
      rcases hip : isPt p with _ | _
      · rw [hip] at hI
        have HI := Lib.hid hI
        have hno : allPt l = false := all_no hlt (by rw [← HPP.out]; exact hip)
        have HN := Lib.hid hno
        have HB := Lib.hid hb
        clear hI hip hno ho hb
        go_wp2_with fail
        refine (HI.out _).mono ?_
        rintro r w2 ⟨rfl, rfl⟩
        go_wp2
        go_ret2
        exact ⟨by rw [HN.out]; rfl, HB.out⟩
      · rw [hip] at hI
        have HI := Lib.hid hI
        have h2 : 0 ≤ p ∧ p ≤ 1114111 := by unfold isPt at hip; have := of_decide_eq_true hip; omega
        have hst := all_step hlt hA.out (by rw [← HPP.out]; exact hip)
        have hts := toN_step (l := l) hlt
        rw [← HPP.out] at hts
        obtain ⟨q, rfl⟩ : ∃ q : Nat, p = (q : Int) := ⟨p.toNat, by omega⟩
        rw [Int.toNat_natCast] at hts
        have h4 := encL_len (toN (l.take k))
        have h5 : (toN (l.take k)).length ≤ l.length := by unfold toN; rw [List.length_map, List.length_take]; omega
        have hP := put_any q w.heap.size ao cap (encL (toN (l.take k))) wr (by omega) (HT.out.below hb) hb.size (by omega) ho
        rw [← hn.out] at hP
        have HP := Lib.hid hP; have HST := Lib.hid hst; have HTS := Lib.hid hts
        have HB := Lib.hid hb
        clear hI hip ho hP hst hts h4 h5 hb
        go_wp2_with fail
        refine (HI.out _).mono ?_
        rintro r w2 ⟨rfl, rfl⟩
        go_wp2_with fail
        refine HP.out.mono ?_
        rintro r w2 ⟨ao2, cap2, rfl, ho2, hb2, _⟩
        have HO2 := Lib.hid ho2; have HB2 := Lib.hid (HB.out.trans hb2)
        clear ho2 hb2 HP HI
        go_wp2
        go_roundw
        case rel => exact ⟨k + 1, ao2, cap2, _, by omega, by go_num, rfl, Lib.hid (by rw [HTS.out, encL_append, encL_one, List.length_append]), by rw [HTS.out, encL_append, encL_one]; exact HO2.out, HB2.out, HST⟩
        case measure => simp [intOf]; omega
    · obtain rfl : k = l.length := by omega
      rw [List.take_length] at hn ho hA
      have hlo : ∀ x ∈ encL (toN l), x < 256 := encL_lo (toN_pts hA.out)
      have hcv := conv_tx (P := Tryd.prog) wr 53 9 5 _ cap ao (encL (toN l)) n Tryd.underlying53 Tryd.underlying5 Tryd.underlying9 ho hlo hn.out
      have HB := Lib.hid hb
      clear ho hlo hb
      go_wp2
      go_ret2
      exact ⟨by rw [hA.out]; rfl, HB.out⟩
end Go.Proofs.YtmkmaignfcjjkaaDoor
