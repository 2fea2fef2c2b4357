/- Walks: isDigits, limbOf. -/
import Derived.Test.YtofeckdhhaoobaaDoorLimbGs
namespace Go.Proofs.YtofeckdhhaoobaaDoor
open Go.RowKit LM

/-- a digit's byte -/
def isD (c : UInt8) : Bool := decide (48 ≤ c.toNat ∧ c.toNat ≤ 57)
/-- what digits write -/
def dv (l : List UInt8) : Nat := l.foldl (fun n c => 10 * n + (c.toNat - 48)) 0
theorem dv_snoc (l : List UInt8) (c : UInt8) : dv (l ++ [c]) = 10 * dv l + (c.toNat - 48) := by simp [dv]
theorem take_snocB (s : ByteArray) (k : Nat) (h : k < s.size) : s.data.toList.take (k + 1) = s.data.toList.take k ++ [s[k]] := by
  rw [List.take_succ_eq_append_getElem (by simpa using h)]; rfl
theorem dv_lt {l : List UInt8} (h : ∀ c ∈ l, isD c = true) : dv l < 10 ^ l.length := by
  generalize hn : l.length = n
  induction n generalizing l with
  | zero => obtain rfl := List.eq_nil_of_length_eq_zero hn; simp [dv]
  | succ n ih =>
    obtain ⟨t, c, rfl⟩ : ∃ t c, l = t ++ [c] := ⟨l.dropLast, l.getLast (by intro e; rw [e] at hn; simp at hn), (List.dropLast_concat_getLast _).symm⟩
    have h1 := ih (l := t) (fun x hx => h x (by simp [hx])) (by simpa using hn)
    have h2 := h c (by simp)
    simp [isD] at h2
    rw [dv_snoc, Nat.pow_succ]; omega

/-- digits alone, and one at least -/
def okD (s : ByteArray) : Bool := s.data.toList.all isD && !s.data.toList.isEmpty
theorem okD_bad {s : ByteArray} {k : Nat} (h : k < s.size) (hb : s[k].toNat < 48 ∨ 57 < s[k].toNat) : okD s = false := by
  have hm : s[k] ∈ s.data.toList := by have : s[k] = s.data.toList[k]'(by simpa using h) := rfl; rw [this]; exact List.getElem_mem _
  unfold okD
  cases e : s.data.toList.all isD with
  | false => rfl
  | true =>
    have := List.all_eq_true.1 e _ hm
    simp [isD] at this; omega
theorem okD_step {s : ByteArray} {k : Nat} (h : k < s.size) (ha : (s.data.toList.take k).all isD = true) (h1 : 48 ≤ s[k].toNat) (h2 : s[k].toNat ≤ 57) : (s.data.toList.take (k + 1)).all isD = true := by
  rw [take_snocB s k h, List.all_append, ha]; simp [isD, h1, h2]

set_option maxHeartbeats 1000000 in
theorem isDigits_any (s : ByteArray) (w : World) (hs : s.size ≤ maxLen) :
    Calls Tryd.prog 76 #[.string s] w fun e w' => e = .returned (.bool (okD s)) ∧ w = w' := by
  unfold maxLen at hs
  go_enter Tryd.func76, Tryd.ntmps76
  go_wp2
  go_loop [6] (fun i => ∃ k : Nat, k ≤ s.size ∧ i = .int .i64 k ∧ Hid ((s.data.toList.take k).all isD = true)) (fun i => s.size - (intOf i).toNat)
  case atStart => exact ⟨0, Nat.zero_le _, rfl, (by simp : (s.data.toList.take 0).all isD = true)⟩
  case round =>
    obtain ⟨k, hk, rfl, HA⟩ := hrel
    by_cases hlt : k < s.size
    · by_cases hc1 : s[k].toNat < 48
      · have hI : (s[k].toNat : Int) < 48 := by omega
        have HB := Lib.hid (okD_bad hlt (.inl hc1))
        go_wp2
        go_ret
        exact ⟨ret_bool HB.out.symm, rfl⟩
      · by_cases hc2 : 57 < s[k].toNat
        · have hI : ¬ (s[k].toNat : Int) < 48 := by omega
          have hI2 : 57 < (s[k].toNat : Int) := by omega
          have HB := Lib.hid (okD_bad hlt (.inr hc2))
          go_wp2
          go_ret
          exact ⟨ret_bool HB.out.symm, rfl⟩
        · have hI : ¬ (s[k].toNat : Int) < 48 := by omega
          have hI2 : ¬ 57 < (s[k].toNat : Int) := by omega
          go_wp2
          go_round
          case rel => exact ⟨k + 1, by omega, by go_num, okD_step hlt HA.out (by omega) (by omega)⟩
          case measure => simp [intOf]; omega
    · obtain rfl : k = s.size := by omega
      go_wp2
      go_ret
      refine ⟨ret_bool ?_, rfl⟩
      have h := HA.out
      rw [List.take_of_length_le (by simp)] at h
      unfold okD
      rw [h, Lib.toList_data]; rfl

set_option maxHeartbeats 1000000 in
theorem limbOf_any (s : ByteArray) (w : World) (hs : s.size ≤ 9) (hd : ∀ c ∈ s.data.toList, isD c = true) :
    Calls Tryd.prog 77 #[.string s] w fun e w' => e = .returned (.int .u32 (dv s.data.toList)) ∧ w = w' := by
  have HD := Lib.hid hd
  clear hd
  go_enter Tryd.func77, Tryd.ntmps77
  go_wp2
  go_loop [3, 7] (fun n i => ∃ k q : Nat, k ≤ s.size ∧ i = .int .i64 k ∧ n = .int .u32 q ∧ Hid (q = dv (s.data.toList.take k))) (fun _ i => s.size - (intOf i).toNat)
  case atStart => exact ⟨0, 0, Nat.zero_le _, rfl, rfl, rfl⟩
  case round =>
    obtain ⟨k, q, hk, rfl, rfl, HQ⟩ := hrel
    by_cases hlt : k < s.size
    · have hq : q < 100000000 := by
        have h1 := dv_lt (l := s.data.toList.take k) (fun c hc => HD.out c (List.mem_of_mem_take hc))
        have h2 : (s.data.toList.take k).length ≤ 8 := by rw [List.length_take]; omega
        have h3 := pow10_le h2
        rw [HQ.out]; omega
      have hb := HD.out s[k] (by have : s[k] = s.data.toList[k]'(by simpa using hlt) := rfl; rw [this]; exact List.getElem_mem _)
      simp [isD] at hb
      obtain ⟨hb1, hb2⟩ := hb
      go_wp2
      go_round
      case rel => exact ⟨k + 1, 10 * q + (s[k].toNat - 48), by omega, by go_num, by go_num, (by rw [take_snocB s k hlt, dv_snoc, ← HQ.out] : 10 * q + (s[k].toNat - 48) = dv (s.data.toList.take (k + 1)))⟩
      case measure => simp [intOf]; omega
    · obtain rfl : k = s.size := by omega
      go_wp2
      go_ret
      have h := HQ.out
      rw [List.take_of_length_le (by simp)] at h
      exact ⟨by rw [← h]; rfl, rfl⟩

theorem dv_append (l m : List UInt8) : dv (l ++ m) = dv l * 10 ^ m.length + dv m := by
  generalize hn : m.length = n
  induction n generalizing m with
  | zero => obtain rfl := List.eq_nil_of_length_eq_zero hn; simp [dv]
  | succ n ih =>
    obtain ⟨t, c, rfl⟩ : ∃ t c, m = t ++ [c] := ⟨m.dropLast, m.getLast (by intro e; rw [e] at hn; simp at hn), (List.dropLast_concat_getLast _).symm⟩
    have h1 := ih t (by simpa using hn)
    rw [← List.append_assoc, dv_snoc, dv_snoc, h1, Nat.pow_succ]
    rw [Nat.mul_add, Nat.add_assoc, Nat.mul_left_comm, Nat.mul_comm 10 (10 ^ n)]
theorem piece_dv {s : ByteArray} {a e : Nat} (h : a ≤ e) (he : e ≤ s.size) : dv (s.data.toList.take e) = dv (s.data.toList.take a) * 10 ^ (e - a) + dv (s.extract a e).data.toList := by
  have h1 : s.data.toList.take e = s.data.toList.take a ++ (s.extract a e).data.toList := by
    rw [Lib.extract_data]
    have h2 : s.data.toList.take e = (s.data.toList.take e).take a ++ (s.data.toList.take e).drop a := (List.take_append_drop _ _).symm
    rw [List.take_take, Nat.min_eq_left h, List.drop_take] at h2
    exact h2
  have h3 : (s.extract a e).data.toList.length = e - a := by
    rw [Lib.extract_data, List.length_take, List.length_drop]
    have : s.data.toList.length = s.size := by rw [Array.length_toList]; rfl
    omega
  rw [h1, dv_append, h3]
theorem piece_D {s : ByteArray} {a e : Nat} (h : ∀ c ∈ s.data.toList, isD c = true) : ∀ c ∈ (s.extract a e).data.toList, isD c = true := by
  intro c hc
  rw [Lib.extract_data] at hc
  exact h c (List.mem_of_mem_drop (List.mem_of_mem_take hc))

theorem parse_step {L : List Nat} {k p r d : Nat} (hL : L.length = k) (h : vl 1000000000 L + 1000000000 ^ k * (r * 10 ^ 9 + p) = d) : vl 1000000000 (L ++ [p]) + 1000000000 ^ (k + 1) * r = d := by
  rw [vl_append, vl_one, hL, Nat.pow_succ, ← h, show (10 : Nat) ^ 9 = 1000000000 by decide, Nat.mul_add, Nat.mul_comm r, ← Nat.mul_assoc]
  omega
theorem parse_last {L : List Nat} {k p d n : Nat} (hL : L.length = k) (h : vl 1000000000 L + 1000000000 ^ k * (dv [] * 10 ^ n + p) = d) : vl 1000000000 (L ++ [p]) + 1000000000 ^ (k + 1) * dv [] = d := by
  have h0 : dv [] = 0 := rfl
  rw [h0] at h ⊢
  rw [Nat.zero_mul, Nat.zero_add] at h
  rw [Nat.mul_zero, Nat.add_zero, vl_append, vl_one, hL]; exact h

theorem slice_piece {P : Program} (t : TypeId) (ht : P.underlying t = some .string) {s : ByteArray} {a e : Nat} (h : a ≤ e) (he : e ≤ s.size) (ha : max 0 ((e : Int) - 9) = (a : Int)) :
    ∀ W, (Instr.slice t (.string s) (some (.int .i64 (max 0 ((e : Int) - 9)))) (some (.int .i64 (e : Int))) none).run P W = .ok (.string (s.extract a e)) W := by
  intro W
  rw [ha, run_slice_string (w := W) t s .i64 .i64 (a : Int) (e : Int) ht (by omega) (by omega) (by omega), Int.toNat_natCast, Int.toNat_natCast]

set_option maxHeartbeats 1000000 in
theorem Parse_bad (s : ByteArray) (w : World) (hs : s.size ≤ maxLen) (hok : okD s = false) :
    Calls Tryd.prog 44 #[.string s] w fun e w' => e = .returned (.tuple #[.slice none 0 0, .int .i64 2]) ∧ w = w' := by
  have hI := isDigits_any s w hs
  rw [hok] at hI
  have HI := Lib.hid hI
  clear hI hok
  go_enter Tryd.func44, Tryd.ntmps44
  go_wp2_with fail
  refine HI.out.mono ?_
  rintro e w' ⟨rfl, rfl⟩
  go_wp2
  go_ret2
  exact ⟨rfl, rfl⟩

set_option maxHeartbeats 4000000 in
set_option maxRecDepth 100000 in
theorem Parse_ok (s : ByteArray) (w : World) (hs : s.size ≤ 140737488351232) (hok : okD s = true) :
    Calls Tryd.prog 44 #[.string s] w fun e w' => ∃ a' cap', e = .returned (.tuple #[.slice a' (dg 1000000000 (dv s.data.toList)).length cap', .int .i64 0]) ∧
      Own w' w.heap.size 50 .u32 a' cap' (dg 1000000000 (dv s.data.toList)) ∧ Below w.heap.size w w' := by
  have hI := isDigits_any s w (by unfold maxLen; omega)
  rw [hok] at hI
  have hD : ∀ c ∈ s.data.toList, isD c = true := by
    unfold okD at hok
    simp only [Bool.and_eq_true] at hok
    exact List.all_eq_true.1 hok.1
  have HI := Lib.hid hI; have HD := Lib.hid hD
  clear hI hD hok
  go_enter Tryd.func44, Tryd.ntmps44
  go_wp2_with fail
  refine HI.out.mono ?_
  rintro e w' ⟨rfl, rfl⟩
  go_wp2_with (at_make; refine wp_make0 _ rfl _ _ 22 rfl w.heap.size 50 .u32 4 Tryd.underlying22 infoU32 _ _ _ (s.size / 9 + 1) rfl rfl (by omega) (by omega) (by unfold maxLen; omega) (Nat.le_refl _) ?_)
  intro w1 hown1 hb1
  have hsz : s.data.toList.length = s.size := by rw [Array.length_toList]; rfl
  have HSZ := Lib.hid hsz
  clear hsz
  go_wp2_with fail
  go_loopw [4, 5] (fun v4 i wr => ∃ (E : Int) (k : Nat) (L : List Nat), E ≤ s.size ∧ -9 < E ∧ 9 * (k : Int) + E ≤ s.size ∧ (s.size : Int) ≤ 9 * (k : Int) + E ∧ i = .int .i64 E ∧ v4 = .slice (some ⟨w.heap.size, 0, none⟩) k (s.size / 9 + 1) ∧ Hid (L.length = k) ∧ Hid (Lo 1000000000 L) ∧
      Hid (vl 1000000000 L + 1000000000 ^ k * dv (s.data.toList.take E.toNat) = dv s.data.toList) ∧ Own wr w.heap.size 50 .u32 (some ⟨w.heap.size, 0, none⟩) (s.size / 9 + 1) L ∧ Below w.heap.size w wr) (fun _ i _ => (intOf i).toNat)
  case atStart => exact ⟨s.size, 0, [], by omega, by omega, by omega, by omega, rfl, rfl, (rfl : ([] : List Nat).length = 0), Lo_nil _, (by rw [Int.toNat_natCast, List.take_of_length_le (by rw [HSZ.out]; omega)]; simp [vl] : vl 1000000000 [] + 1000000000 ^ 0 * dv (s.data.toList.take ((s.size : Int)).toNat) = dv s.data.toList), hown1, hb1⟩
  case round =>
    obtain ⟨E, k, L, hE1, hE2, hE3, hE4, rfl, rfl, HLL, HLo, HV, hownr, hblr⟩ := hrel
    by_cases hpos : 0 < E
    · obtain ⟨e, rfl⟩ : ∃ e : Nat, E = e := ⟨E.toNat, by omega⟩
      have hV := HV.out
      rw [Int.toNat_natCast] at hV
      by_cases h9 : 9 ≤ e
      · have hL := limbOf_any (s.extract (e - 9) e) wr (by rw [ByteArray.size_extract]; omega) (piece_D HD.out)
        have hlt := dv_lt (piece_D (a := (e - 9)) (e := e) HD.out)
        have hlen : (s.extract (e - 9) e).data.toList.length = e - (e - 9) := by rw [Lib.extract_data, List.length_take, List.length_drop, HSZ.out]; omega
        have hp : dv (s.extract (e - 9) e).data.toList < 1000000000 := by
          rw [hlen] at hlt
          have : 10 ^ (e - (e - 9)) ≤ 10 ^ 9 := Nat.pow_le_pow_right (by omega) (by omega)
          rw [show (10 : Nat) ^ 9 = 1000000000 by decide] at this
          omega
        have hsl := slice_piece (P := Tryd.prog) 9 Tryd.underlying9 (s := s) (a := (e - 9)) (e := e) (by omega) (by omega) (by omega)
        obtain ⟨p, hpe⟩ : ∃ p, p = dv (s.extract (e - 9) e).data.toList := ⟨_, rfl⟩
        rw [← hpe] at hp hL
        have HP := Lib.hid hpe; have HL := Lib.hid hL; have HLEN := Lib.hid hlen
        have hlk := HLL.out
        have hfit : L.length + 1 ≤ s.size / 9 + 1 := by omega
        have HFIT := Lib.hid hfit
        clear hL hlt hpe hlen hlk hfit hV
        go_wp2_with fail
        refine HL.out.mono ?_
        rintro e' w' ⟨rfl, rfl⟩
        go_wp2_with (at_builtin; refine wp_pushFits wr rfl _ _ 22 rfl w.heap.size 50 .u32 4 Tryd.underlying22 infoU32 w.heap.size (s.size / 9 + 1) k L HLL.out.symm rfl _ p rfl _ rfl hownr HFIT.out (hblr.size) ?_)
        intro w3 hown3 hb3
        have hbl3 := hblr.trans hb3
        clear hownr hblr hb3 hown1 hb1 HL hsl
        go_wp2
        go_roundw
        case rel => exact ⟨(e : Int) - 9, k + 1, L ++ [p], by omega, by omega, by omega, by omega, rfl, rfl, (by rw [List.length_append, HLL.out]; rfl : (L ++ [p]).length = k + 1), (Lo_append HLo.out (Lo_one hp) : Lo 1000000000 (L ++ [p])), (by have h1 := HV.out; rw [Int.toNat_natCast, piece_dv (s := s) (a := e - 9) (e := e) (by omega) (by omega), show e - (e - 9) = 9 by omega, ← HP.out] at h1; rw [show ((e : Int) - 9).toNat = e - 9 by omega]; exact parse_step HLL.out h1 : vl 1000000000 (L ++ [p]) + 1000000000 ^ (k + 1) * dv (s.data.toList.take ((e : Int) - 9).toNat) = dv s.data.toList), hown3, hbl3⟩
        case measure => simp [intOf]; omega
      · have hL := limbOf_any (s.extract 0 e) wr (by rw [ByteArray.size_extract]; omega) (piece_D HD.out)
        have hlt := dv_lt (piece_D (a := 0) (e := e) HD.out)
        have hlen : (s.extract 0 e).data.toList.length = e - 0 := by rw [Lib.extract_data, List.length_take, List.length_drop, HSZ.out]; omega
        have hp : dv (s.extract 0 e).data.toList < 1000000000 := by
          rw [hlen] at hlt
          have : 10 ^ (e - 0) ≤ 10 ^ 9 := Nat.pow_le_pow_right (by omega) (by omega)
          rw [show (10 : Nat) ^ 9 = 1000000000 by decide] at this
          omega
        have hsl := slice_piece (P := Tryd.prog) 9 Tryd.underlying9 (s := s) (a := 0) (e := e) (by omega) (by omega) (by omega)
        obtain ⟨p, hpe⟩ : ∃ p, p = dv (s.extract 0 e).data.toList := ⟨_, rfl⟩
        rw [← hpe] at hp hL
        have HP := Lib.hid hpe; have HL := Lib.hid hL; have HLEN := Lib.hid hlen
        have hlk := HLL.out
        have hfit : L.length + 1 ≤ s.size / 9 + 1 := by omega
        have HFIT := Lib.hid hfit
        clear hL hlt hpe hlen hlk hfit hV
        go_wp2_with fail
        refine HL.out.mono ?_
        rintro e' w' ⟨rfl, rfl⟩
        go_wp2_with (at_builtin; refine wp_pushFits wr rfl _ _ 22 rfl w.heap.size 50 .u32 4 Tryd.underlying22 infoU32 w.heap.size (s.size / 9 + 1) k L HLL.out.symm rfl _ p rfl _ rfl hownr HFIT.out (hblr.size) ?_)
        intro w3 hown3 hb3
        have hbl3 := hblr.trans hb3
        clear hownr hblr hb3 hown1 hb1 HL hsl
        go_wp2
        go_roundw
        case rel => exact ⟨(e : Int) - 9, k + 1, L ++ [p], by omega, by omega, by omega, by omega, rfl, rfl, (by rw [List.length_append, HLL.out]; rfl : (L ++ [p]).length = k + 1), (Lo_append HLo.out (Lo_one hp) : Lo 1000000000 (L ++ [p])), (by have h1 := HV.out; rw [Int.toNat_natCast, piece_dv (s := s) (a := 0) (e := e) (by omega) (by omega), ← HP.out, List.take_zero] at h1; rw [show ((e : Int) - 9).toNat = 0 by omega, List.take_zero]; exact parse_last HLL.out h1 : vl 1000000000 (L ++ [p]) + 1000000000 ^ (k + 1) * dv (s.data.toList.take ((e : Int) - 9).toNat) = dv s.data.toList), hown3, hbl3⟩
        case measure => simp [intOf]; omega
    · have hz : E.toNat = 0 := by omega
      have hV := HV.out
      rw [hz, List.take_zero] at hV
      have hval : tr L = dg 1000000000 (dv s.data.toList) := by
        rw [tr_eq (by omega) HLo.out, ← hV]; simp [dv]
      have hlk := HLL.out
      have hR := trim_any (some ⟨w.heap.size, 0, none⟩) (s.size / 9 + 1) L wr (by omega) hownr.rd (by omega)
      have ht2 := tr_take L
      have hown4 := hownr.take (tr L).length (by rw [ht2]; simp; omega)
      rw [← ht2] at hown4
      rw [hval] at hR hown4
      rw [hlk] at hR
      have HR := Lib.hid hR
      clear hR ht2 hval hV hlk hownr hown1
      go_wp2_with fail
      refine HR.out.mono ?_
      rintro e w4 ⟨rfl, rfl⟩
      go_wp2
      go_ret2
      exact ⟨_, _, rfl, hown4, hblr⟩
end Go.Proofs.YtofeckdhhaoobaaDoor
