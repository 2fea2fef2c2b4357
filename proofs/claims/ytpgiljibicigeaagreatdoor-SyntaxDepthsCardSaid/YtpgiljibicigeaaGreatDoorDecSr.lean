/- Walk of dec.read: the loop. -/
import Derived.Test.YtpgiljibicigeaaGreatDoorDecFs
set_option linter.unusedVariables false
set_option linter.unusedSimpArgs false
namespace Go.Proofs.YtpgiljibicigeaaGreatDoor
open Go.RowKit LM

theorem rrun_go {s : ByteArray} {f pos : Nat} {q : RS} (hp : pos < s.size) (h : nx q.st (Utf8.decode s pos).1 ≠ 0) : rrun s (f + 1) pos q = rrun s f (pos + (Utf8.decode s pos).2) (rupd q (Utf8.decode s pos).1) := by
  rw [rrun, if_pos hp, if_neg h]
theorem rrun_no {s : ByteArray} {f pos : Nat} {q : RS} (hp : pos < s.size) (h : nx q.st (Utf8.decode s pos).1 = 0) : rrun s (f + 1) pos q = none := by
  rw [rrun, if_pos hp, if_pos h]
theorem rrun_end {s : ByteArray} {f pos : Nat} {q : RS} (hp : ¬ pos < s.size) : rrun s f pos q = some q := by
  cases f with
  | zero => rfl
  | succ f => rw [rrun, if_neg hp]

theorem rupd_at (q : RS) (c : Nat) {t : Int} (h : nx q.st c = t) : rupd q c = ⟨t, if t = 2 then true else q.neg, if t = 3 ∨ t = 4 ∨ t = 6 then q.ds ++ [UInt8.ofNat c] else q.ds, if t = 6 then q.beh + 1 else q.beh, if t = 8 then decide (c = 45) else q.down, if t = 9 then min (10 * q.pw + (c - 48)) 30000 else q.pw⟩ := by
  subst h; rfl
theorem RI.withSt {s : ByteArray} {w wr : World} {pos : Nat} {q : RS} {ao : Option Addr} {cap : Nat} (h : RI s w wr pos q ao cap) (t : Int) : RI s w wr pos { q with st := t } ao cap := ⟨h.c0, h.c1, h.c2, h.c3, h.c4, h.f1, h.f0, h.res, h.it, h.own, h.bw⟩
theorem nb_one (l : List UInt8) (c : Nat) (h : c < 256) : nb l ++ [c] = nb (l ++ [UInt8.ofNat c]) := by simp [nb, Nat.mod_eq_of_lt h]
theorem nb_len1 (l : List UInt8) (x : UInt8) : l.length + 1 = (l ++ [x]).length := by simp
theorem it_lessDec {w w' : World} {k pos p2 : Nat} {s : ByteArray} (h : w.heap[k]? = some (.stringIter s pos)) (h' : w'.heap[k]? = some (.stringIter s p2)) (h1 : pos < s.size) (h2 : pos < p2) : s.size - w'.iterPos k < s.size - w.iterPos k := by
  simp only [World.iterPos, h, h']; omega

set_option maxHeartbeats 16000000 in
theorem read_any (s : ByteArray) (w : World) (hs : s.size ≤ 140737488351232) : Calls Tryz.prog 121 #[.string s] w (ResR s w) := by
  have hA := fun st c W h0 h9 => after_any st c W h0 h9
  have HA := Lib.hid hA
  clear hA
  go_enter Tryz.func121, Tryz.ntmps121
  go_wp2
  go_loopw [5] (fun v5 wr => ∃ (pos fuel : Nat) (q : RS) (ao : Option Addr) (cap : Nat), v5 = .int .i64 q.st ∧ 1 ≤ q.st ∧ q.st ≤ 9 ∧ q.pw ≤ 30000 ∧ q.beh + fuel ≤ s.size ∧ q.ds.length + fuel ≤ s.size ∧ s.size ≤ pos + fuel ∧
    RI s w wr pos q ao cap ∧ Hid (rrun s s.size 0 rs0 = rrun s fuel pos q)) (fun _ wr => s.size - wr.iterPos (w.heap.size + 2))
  case atStart =>
    refine ⟨0, s.size, rs0, none, 0, rfl, by decide, by decide, by decide, by show 0 + s.size ≤ _; omega, by show 0 + s.size ≤ _; omega, by omega, ?_, (rfl : rrun s s.size 0 rs0 = _)⟩
    have hi := World.iter_heap ((w.alloc (.cells #[.bool false, .slice none 0 0, .int .i64 0, .bool false, .int .i64 0] 131)).alloc (.cells #[.bool false, .slice none 0 0, .int .i64 0, .bool false, .int .i64 0] 131)) s 0
    have hb := (((Below.refl w.heap.size w).alloc (Nat.le_refl _) (.cells #[.bool false, .slice none 0 0, .int .i64 0, .bool false, .int .i64 0] 131)).alloc (by simp) (.cells #[.bool false, .slice none 0 0, .int .i64 0, .bool false, .int .i64 0] 131))
    have a1 : ∀ o, o < 5 → ((w.alloc (.cells #[.bool false, .slice none 0 0, .int .i64 0, .bool false, .int .i64 0] 131)).alloc (.cells #[.bool false, .slice none 0 0, .int .i64 0, .bool false, .int .i64 0] 131)).cell? ⟨w.heap.size + 1, o, none⟩ = (#[Value.bool false, .slice none 0 0, .int .i64 0, .bool false, .int .i64 0])[o]? := fun o ho => by simp
    have a0 : ∀ o, o < 5 → ((w.alloc (.cells #[.bool false, .slice none 0 0, .int .i64 0, .bool false, .int .i64 0] 131)).alloc (.cells #[.bool false, .slice none 0 0, .int .i64 0, .bool false, .int .i64 0] 131)).cell? ⟨w.heap.size, o, none⟩ = (#[Value.bool false, .slice none 0 0, .int .i64 0, .bool false, .int .i64 0])[o]? := fun o ho => by simp
    have z1 : ∀ o, ((w.alloc (.cells #[.bool false, .slice none 0 0, .int .i64 0, .bool false, .int .i64 0] 131)).alloc (.cells #[.bool false, .slice none 0 0, .int .i64 0, .bool false, .int .i64 0] 131)).frozen? ⟨w.heap.size + 1, o, none⟩ = false := fun o => by simp
    have z0 : ∀ o, ((w.alloc (.cells #[.bool false, .slice none 0 0, .int .i64 0, .bool false, .int .i64 0] 131)).alloc (.cells #[.bool false, .slice none 0 0, .int .i64 0, .bool false, .int .i64 0] 131)).frozen? ⟨w.heap.size, o, none⟩ = false := fun o => by simp
    have m1 : ((w.alloc (.cells #[.bool false, .slice none 0 0, .int .i64 0, .bool false, .int .i64 0] 131)).alloc (.cells #[.bool false, .slice none 0 0, .int .i64 0, .bool false, .int .i64 0] 131)).heap.size = w.heap.size + 2 := by simp
    generalize ((w.alloc (.cells #[.bool false, .slice none 0 0, .int .i64 0, .bool false, .int .i64 0] 131)).alloc (.cells #[.bool false, .slice none 0 0, .int .i64 0, .bool false, .int .i64 0] 131)) = W at *
    have hI : Below W.heap.size W (W.iter s 0) := (Below.refl _ _).alloc (Nat.le_refl _) (.stringIter s 0)
    refine ⟨?_, ?_, ?_, ?_, ?_, fun j => ?_, fun j => ?_, fun j hj => ⟨(#[Value.bool false, .slice none 0 0, .int .i64 0, .bool false, .int .i64 0])[j]'(by simpa using hj), ?_⟩, by rw [← m1]; simpa using hi, Own.nilNone _ _ _ _, hb.trans (hI.mono (by omega))⟩
    · rw [hI.cell (by simp; omega), a1 0 (by omega)]; rfl
    · rw [hI.cell (by simp; omega), a1 1 (by omega)]; rfl
    · rw [hI.cell (by simp; omega), a1 2 (by omega)]; rfl
    · rw [hI.cell (by simp; omega), a1 3 (by omega)]; rfl
    · rw [hI.cell (by simp; omega), a1 4 (by omega)]; rfl
    · rw [hI.frozen (by simp; omega)]; exact z1 j
    · rw [hI.frozen (by simp; omega)]; exact z0 j
    · rw [hI.cell (by simp; omega), a0 j hj]; simp [hj]
  case round =>
    obtain ⟨pos, fuel, q, ao, cap, rfl, hq1, hq9, hpw, hbe, hdl, hfu, I, HR⟩ := hrel
    have hit := I.it
    by_cases hp : pos < s.size
    · have hnx : ∀ ty, (Instr.next (.pointer (some ⟨w.heap.size + 2, 0, none⟩)) true ty).run Tryz.prog wr = _ := fun ty => Lib.run_next_any_at wr (w.heap.size + 2) s pos ty hit hp
      have hwd := width_pos s pos hp
      have hd1 := decode_le s pos
      obtain ⟨f, rfl⟩ : ∃ f, fuel = f + 1 := ⟨fuel - 1, by omega⟩
      have I2 := I.iter (pos + (Utf8.decode s pos).2)
      go_wp2_with (go_at_call 129; refine (HA.out _ _ _ (by omega) hq9).mono ?_)
      rintro r w1 ⟨rfl, hb1⟩
      have I3 := I2.below hb1
      have hrng := nx_rng q.st (Utf8.decode s pos).1
      have hgo := fun h => HR.out.trans (rrun_go (f := f) (q := q) hp h)
      have hno := fun h => HR.out.trans (rrun_no (f := f) (q := q) hp h)
      have HG := Lib.hid hgo; have HN := Lib.hid hno; have HIT := Lib.hid hit
      clear hgo hno hnx hit I I2 hb1
      generalize (Utf8.decode s pos).1 = cn at *
      generalize (Utf8.decode s pos).2 = wd at *
      obtain ⟨k0, k1, k2, k3, k4, kf1, kf0, kres, kit, kown, kbw⟩ := id I3
      have KRES := Lib.hid kres; have KIT := Lib.hid kit
      clear kres kit
      rcases hrng with ht | ht | ⟨ht | ht | ht | ht, g1, g2⟩ | ht | ht | ht
      · -- wrong
        have hn := HN.out ht
        have HNN := Lib.hid hn
        obtain ⟨x0, e0⟩ := KRES.out 0 (by omega)
        obtain ⟨x1, e1⟩ := KRES.out 1 (by omega)
        obtain ⟨x2, e2⟩ := KRES.out 2 (by omega)
        obtain ⟨x3, e3⟩ := KRES.out 3 (by omega)
        obtain ⟨x4, e4⟩ := KRES.out 4 (by omega)
        rw [ht]
        clear hn kown
        go_wp2
        refine bodyPost_ret (v := .tuple #[.agg #[.bool false, .slice none 0 0, .int .i64 0, .bool false, .int .i64 0], .bool false]) (by simp [results, Tryz.results121, go_sem, e0, e1, e2, e3, e4]) rfl ?_
        exact ⟨((((kbw.setCell (Nat.le_refl _) _).setCell (Nat.le_refl _) _).setCell (Nat.le_refl _) _).setCell (Nat.le_refl _) _).setCell (Nat.le_refl _) _, .inl ⟨HNN.out, rfl⟩⟩
      · -- minus
        have J := (I3.set0 true).withSt 2
        have HE := Lib.hid ((HG.out (by rw [ht]; decide)).trans (by rw [rupd_at q cn ht]; rfl : rrun s f (pos + wd) (rupd q cn) = rrun s f (pos + wd) { q with neg := true, st := 2 }))
        rw [ht]
        go_wp2
        go_roundw
        case rel => exact ⟨pos + wd, f, { q with neg := true, st := 2 }, ao, cap, rfl, by simp, by simp, hpw, by show q.beh + f ≤ _; omega, by show q.ds.length + f ≤ _; omega, by omega, J, HE⟩
        case measure => exact it_lessDec HIT.out J.it hp (by omega)
      · -- nought
        have hl : q.ds.length = (nb q.ds).length := (nb_length _).symm
        have hd2 : ((nb q.ds).length + 1) * 1 ≤ 140737488355328 := by rw [nb_length]; omega
        have hd3 : (nb q.ds).length + 1 ≤ maxLen := by rw [nb_length]; unfold maxLen; omega
        have hsz3 : w.heap.size + 3 ≤ w1.heap.size := I3.lt
        have HL := Lib.hid hl
        clear hl
        rw [ht]
        go_wp2_with (at_builtin; refine wp_push w1 rfl _ _ 52 rfl (w.heap.size + 3) 5 .u8 1 Tryz.underlying52 infoU8L ao cap q.ds.length (nb q.ds) HL.out rfl _ cn (by omega) _ rfl kown hd2 hd3 hsz3 ?_)
        intro ao5 cap5 w5 hown5 hb5
        rw [nb_one _ _ (by omega)] at hown5
        obtain ⟨b0, b1, b2, b3, b4, bf1, bf0, bres, bit, bbw⟩ := I3.ofBelow (ao' := ao) (cap' := cap) hb5
        have J := (I3.push hb5 hown5 (q.ds.length + 1) (nb_len1 _ _)).withSt 3
        have HE := Lib.hid ((HG.out (by rw [ht]; decide)).trans (by rw [rupd_at q cn ht]; rfl : rrun s f (pos + wd) (rupd q cn) = rrun s f (pos + wd) { q with ds := q.ds ++ [UInt8.ofNat cn], st := 3 }))
        clear bres bit kown k0 k1 k2 k3 k4 kf1 kf0 hown5
        go_wp2
        go_roundw
        case rel => exact ⟨pos + wd, f, { q with ds := q.ds ++ [UInt8.ofNat cn], st := 3 }, ao5, cap5, rfl, by simp, by simp, hpw, by show q.beh + f ≤ _; omega, by rw [← nb_len1]; omega, by omega, J, HE⟩
        case measure => exact it_lessDec HIT.out J.it hp (by omega)
      · have hl : q.ds.length = (nb q.ds).length := (nb_length _).symm
        have hd2 : ((nb q.ds).length + 1) * 1 ≤ 140737488355328 := by rw [nb_length]; omega
        have hd3 : (nb q.ds).length + 1 ≤ maxLen := by rw [nb_length]; unfold maxLen; omega
        have hsz3 : w.heap.size + 3 ≤ w1.heap.size := I3.lt
        have HL := Lib.hid hl
        clear hl
        rw [ht]
        go_wp2_with (at_builtin; refine wp_push w1 rfl _ _ 52 rfl (w.heap.size + 3) 5 .u8 1 Tryz.underlying52 infoU8L ao cap q.ds.length (nb q.ds) HL.out rfl _ cn (by omega) _ rfl kown hd2 hd3 hsz3 ?_)
        intro ao5 cap5 w5 hown5 hb5
        rw [nb_one _ _ (by omega)] at hown5
        obtain ⟨b0, b1, b2, b3, b4, bf1, bf0, bres, bit, bbw⟩ := I3.ofBelow (ao' := ao) (cap' := cap) hb5
        have J := (I3.push hb5 hown5 (q.ds.length + 1) (nb_len1 _ _)).withSt 4
        have HE := Lib.hid ((HG.out (by rw [ht]; decide)).trans (by rw [rupd_at q cn ht]; rfl : rrun s f (pos + wd) (rupd q cn) = rrun s f (pos + wd) { q with ds := q.ds ++ [UInt8.ofNat cn], st := 4 }))
        clear bres bit kown k0 k1 k2 k3 k4 kf1 kf0 hown5
        go_wp2
        go_roundw
        case rel => exact ⟨pos + wd, f, { q with ds := q.ds ++ [UInt8.ofNat cn], st := 4 }, ao5, cap5, rfl, by simp, by simp, hpw, by show q.beh + f ≤ _; omega, by rw [← nb_len1]; omega, by omega, J, HE⟩
        case measure => exact it_lessDec HIT.out J.it hp (by omega)
      · have hl : q.ds.length = (nb q.ds).length := (nb_length _).symm
        have hd2 : ((nb q.ds).length + 1) * 1 ≤ 140737488355328 := by rw [nb_length]; omega
        have hd3 : (nb q.ds).length + 1 ≤ maxLen := by rw [nb_length]; unfold maxLen; omega
        have hsz3 : w.heap.size + 3 ≤ w1.heap.size := I3.lt
        have HL := Lib.hid hl
        clear hl
        rw [ht]
        go_wp2_with (at_builtin; refine wp_push w1 rfl _ _ 52 rfl (w.heap.size + 3) 5 .u8 1 Tryz.underlying52 infoU8L ao cap q.ds.length (nb q.ds) HL.out rfl _ cn (by omega) _ rfl kown hd2 hd3 hsz3 ?_)
        intro ao5 cap5 w5 hown5 hb5
        rw [nb_one _ _ (by omega)] at hown5
        obtain ⟨b0, b1, b2, b3, b4, bf1, bf0, bres, bit, bbw⟩ := I3.ofBelow (ao' := ao) (cap' := cap) hb5
        have J := (I3.push hb5 hown5 (q.ds.length + 1) (nb_len1 _ _)).set2 (q.beh + 1) |>.withSt 6
        have HE := Lib.hid ((HG.out (by rw [ht]; decide)).trans (by rw [rupd_at q cn ht]; rfl : rrun s f (pos + wd) (rupd q cn) = rrun s f (pos + wd) { q with ds := q.ds ++ [UInt8.ofNat cn], st := 6, beh := q.beh + 1 }))
        clear bres bit kown k0 k1 k2 k3 k4 kf1 kf0 hown5
        go_wp2
        go_roundw
        case rel => exact ⟨pos + wd, f, { q with ds := q.ds ++ [UInt8.ofNat cn], st := 6, beh := q.beh + 1 }, ao5, cap5, rfl, by simp, by simp, hpw, by show q.beh + 1 + f ≤ _; omega, by rw [← nb_len1]; omega, by omega, J, HE⟩
        case measure => exact it_lessDec HIT.out J.it hp (by omega)
      · -- power
        have e9 : min (10 * (q.pw : Int) + ((cn : Int) - 48)) 30000 = ((min (10 * q.pw + (cn - 48)) 30000 : Nat) : Int) := by omega
        have J := (I3.set4 (min (10 * q.pw + (cn - 48)) 30000)).withSt 9
        rw [← e9] at J
        have HE := Lib.hid ((HG.out (by rw [ht]; decide)).trans (by rw [rupd_at q cn ht]; rfl : rrun s f (pos + wd) (rupd q cn) = rrun s f (pos + wd) { q with pw := min (10 * q.pw + (cn - 48)) 30000, st := 9 }))
        clear e9
        rw [ht]
        go_wp2
        go_roundw
        case rel => exact ⟨pos + wd, f, { q with pw := min (10 * q.pw + (cn - 48)) 30000, st := 9 }, ao, cap, rfl, by simp, by simp, Nat.min_le_right _ _, by show q.beh + f ≤ _; omega, by show q.ds.length + f ≤ _; omega, by omega, J, HE⟩
        case measure => exact it_lessDec HIT.out J.it hp (by omega)
      · have J := I3.withSt 5
        have HE := Lib.hid ((HG.out (by rw [ht]; decide)).trans (by rw [rupd_at q cn ht]; rfl : rrun s f (pos + wd) (rupd q cn) = rrun s f (pos + wd) { q with st := 5 }))
        rw [ht]
        go_wp2
        go_roundw
        case rel => exact ⟨pos + wd, f, { q with st := 5 }, ao, cap, rfl, by simp, by simp, hpw, by show q.beh + f ≤ _; omega, by show q.ds.length + f ≤ _; omega, by omega, J, HE⟩
        case measure => exact it_lessDec HIT.out J.it hp (by omega)
      · have J := I3.withSt 7
        have HE := Lib.hid ((HG.out (by rw [ht]; decide)).trans (by rw [rupd_at q cn ht]; rfl : rrun s f (pos + wd) (rupd q cn) = rrun s f (pos + wd) { q with st := 7 }))
        rw [ht]
        go_wp2
        go_roundw
        case rel => exact ⟨pos + wd, f, { q with st := 7 }, ao, cap, rfl, by simp, by simp, hpw, by show q.beh + f ≤ _; omega, by show q.ds.length + f ≤ _; omega, by omega, J, HE⟩
        case measure => exact it_lessDec HIT.out J.it hp (by omega)
      · have e8 : ((cn : Int) == 45) = decide (cn = 45) := by rw [Bool.eq_iff_iff]; simp; omega
        have J := (I3.set3 (decide (cn = 45))).withSt 8
        rw [← e8] at J
        have HE := Lib.hid ((HG.out (by rw [ht]; decide)).trans (by rw [rupd_at q cn ht]; rfl : rrun s f (pos + wd) (rupd q cn) = rrun s f (pos + wd) { q with down := decide (cn = 45), st := 8 }))
        rw [← e8] at HE
        clear e8
        rw [ht]
        go_wp2
        go_roundw
        case rel => exact ⟨pos + wd, f, { q with down := ((cn : Int) == 45), st := 8 }, ao, cap, rfl, by simp, by simp, hpw, by show q.beh + f ≤ _; omega, by show q.ds.length + f ≤ _; omega, by omega, J, HE⟩
        case measure => exact it_lessDec HIT.out J.it hp (by omega)
    · have hnx : ∀ ty, (Instr.next (.pointer (some ⟨w.heap.size + 2, 0, none⟩)) true ty).run Tryz.prog wr = _ := fun ty => Lib.run_next_end_at wr (w.heap.size + 2) s pos ty hit hp
      have hfin := HR.out.trans (rrun_end (f := fuel) (q := q) hp)
      have HFIN := Lib.hid hfin
      obtain ⟨k0, k1, k2, k3, k4, kf1, kf0, kres, kit, kown, kbw⟩ := id I
      clear hfin kres kown kf0
      go_wp2_with fail
      go_region_held3 (fun w' => w'.cell? ⟨w.heap.size + 1, 0, none⟩ = some (.bool q.neg) ∧ w'.cell? ⟨w.heap.size + 1, 1, none⟩ = some (.slice ao q.ds.length cap) ∧ w'.cell? ⟨w.heap.size + 1, 2, none⟩ = some (.int .i64 (q.beh : Nat)) ∧ w'.cell? ⟨w.heap.size + 1, 3, none⟩ = some (.bool q.down) ∧ w'.cell? ⟨w.heap.size + 1, 4, none⟩ = some (.int .i64 (q.pw : Nat))) (first | go_keep | exact ⟨i0, i1, i2, i3, i4⟩)
        ((go_at_call 130; refine (mayEnd_any q.st _ (by omega) hq9).mono ?_; rintro e w2 ⟨rfl, hb2⟩; have I4 := I.below ((Below.refl wr.heap.size wr).drew.trans hb2); obtain ⟨i0, i1, i2, i3, i4, if1, if0, ires, iit, iown, ibw⟩ := id I4; obtain ⟨x0, e0⟩ := ires 0 (by omega); obtain ⟨x1, e1⟩ := ires 1 (by omega); obtain ⟨x2, e2⟩ := ires 2 (by omega); obtain ⟨x3, e3⟩ := ires 3 (by omega); obtain ⟨x4, e4⟩ := ires 4 (by omega); clear ires iit))
      go_wp2
      refine bodyPost_ret (v := .tuple #[.agg #[.bool q.neg, .slice ao q.ds.length cap, .int .i64 (q.beh : Nat), .bool q.down, .int .i64 (q.pw : Nat)], .bool (decide (q.st = 3 ∨ q.st = 4 ∨ q.st = 6 ∨ q.st = 9))]) (by simp [results, Tryz.results121, go_sem, e0, e1, e2, e3, e4]) rfl ?_
      have ap := iown.apart (show w.heap.size < w.heap.size + 3 by omega)
      exact ⟨((((ibw.setCell (Nat.le_refl _) _).setCell (Nat.le_refl _) _).setCell (Nat.le_refl _) _).setCell (Nat.le_refl _) _).setCell (Nat.le_refl _) _, .inr ⟨q, ao, cap, HFIN.out, rfl, (((((iown.mono (by omega)).setFar ap _ _).setFar ap _ _).setFar ap _ _).setFar ap _ _).setFar ap _ _, hpw, by omega, by omega⟩⟩
end Go.Proofs.YtpgiljibicigeaaGreatDoor
