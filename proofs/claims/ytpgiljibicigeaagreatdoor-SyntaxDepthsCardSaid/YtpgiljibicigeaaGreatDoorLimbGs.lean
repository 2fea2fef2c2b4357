/- Walks: strconv.FormatUint, AppendUint at base 10; Text, Digits. -/
import Derived.Test.YtpgiljibicigeaaGreatDoorLimbMaths
import Derived.Test.YtpgiljibicigeaaGreatDoorLimbBs
import Derived.Test.YtpgiljibicigeaaGreatDoorShelf
import Derived.Test.YtpgiljibicigeaaGreatDoorShelfB
import Derived.Lib.AppendIntMem
import Derived.Lib.UnsafeStr
import Derived.Lib.AppendStr
import Derived.Lib.IndexBytes
import Derived.Laws.AppendOwnNone
set_option linter.unusedVariables false
set_option linter.unusedSimpArgs false
namespace Go.Proofs.YtpgiljibicigeaaGreatDoor
open Go.RowKit LM

/-- the library's table of powers of ten -/
def Tab (w : World) : Prop := Lib.TabIs Tryz.prog w "internal/strconv.uint64pow10" .u64 Lib.pow10Tab
theorem Tab.below {w w' : World} (h : Tab w) (hb : Below w.heap.size w w') : Tab w' := Lib.tabBelow_of_tabIs h w' hb

set_option maxHeartbeats 4000000 in
set_option maxRecDepth 100000 in
theorem FormatUintIn_any (u : Nat) (w : World) (hu64 : u < 18446744073709551616) (htab : Tab w) :
    Calls Tryz.prog 145 #[.int .u64 u, .int .i64 10] w fun e w' => e = .returned (.string ⟨(Lib.decDigits u).toArray⟩) ∧ Below w.heap.size w w' := by
  by_cases hs : u < 100
  · have iu : (u : Int) < 100 := by omega
    go_enter Tryz.func145, Tryz.ntmps145
    go_wp2_with (go_at_call 146; refine (Tryz.internal_strconv_small u hs _).mono ?_; rintro e w' ⟨rfl, rfl⟩)
    go_ret
    exact ⟨rfl, Below.refl _ _⟩
  · have hu1 : 1 ≤ u := by omega
    have hnd20 : Lib.nDigits u ≤ 20 := by have := Lib.numDigits_eq u hu1 hu64; split at this <;> omega
    have hal : Tryz.prog.arrayLen 152 = 24 := by simp [Program.arrayLen, Tryz.underlying152]
    have hsl : ∀ W, (Instr.sliceAt 152 (.pointer (some ⟨w.heap.size, 0, none⟩)) none (some (.int .i64 (Lib.nDigits u : Int))) none).run Tryz.prog W = .ok (.slice (some ⟨w.heap.size, 0, none⟩) (Lib.nDigits u) 24) W := fun W => by
      rw [run_sliceAt_array_h W 152 ⟨w.heap.size, 0, none⟩ (by simp [Program.arrayLen, Program.elem, Tryz.underlying152]) .i64 (Lib.nDigits u : Int) (by omega) (by rw [hal]; omega)]
      go_simp
    have hH0 := Lib.holds_zero0 w 152 (Lib.nDigits u) (by omega)
    have hfmt := Tryz.internal_strconv_formatBase10 w.heap.size 0 24 u (Array.replicate (Lib.nDigits u) 0) (w.alloc (.cells Lib.zeros24 152)) hH0 (by rw [Array.size_replicate]; exact Lib.lt_pow_nDigits u) hu64 (by rw [Array.size_replicate]; omega)
    rw [Array.size_replicate] at hfmt
    have HH0 := Lib.hid hH0
    have HF := Lib.hid hfmt
    have iu : (100 : Int) ≤ (u : Int) := by omega
    clear hH0 hal hfmt
    go_enter Tryz.func145, Tryz.ntmps145
    go_wp2_with (go_at_call 147; refine (Tryz.internal_strconv_numDigits u hu1 hu64 _ (Lib.tabIs_alloc htab _)).mono ?_; rintro e w' ⟨rfl, rfl⟩)
    refine HF.out.mono ?_
    rintro e w' ⟨rfl, k, v', dk, rfl, hF⟩
    have hcv : (convert 52 9 (.slice (some ⟨w.heap.size, 0, none⟩) (Lib.nDigits u) 24)).run Tryz.prog ((Sort.putRow (fun (b : UInt8) => Value.int .u8 (b.toNat : Int)) (w.alloc (.cells Lib.zeros24 152)) w.heap.size 0 dk).drewN k) = .ok (.string ⟨(Lib.decDigits u).toArray⟩) ((Sort.putRow (fun (b : UInt8) => Value.int .u8 (b.toNat : Int)) (w.alloc (.cells Lib.zeros24 152)) w.heap.size 0 dk).drewN k) := by
      have h := run_convert_bytes_back (P := Tryz.prog) ((Sort.putRow (fun (b : UInt8) => Value.int .u8 (b.toNat : Int)) (w.alloc (.cells Lib.zeros24 152)) w.heap.size 0 dk).drewN k) 52 9 5 ⟨w.heap.size, 0, none⟩ 24 (Lib.decDigits u) Tryz.underlying52 Tryz.underlying5 Tryz.underlying9 (fun j hj => by
        rw [Lib.row_is_numeral hF j hj, Lib.add_plain, World.cell?_drewN]
        exact Sort.cell?_putRow (fun (b : UInt8) => Value.int .u8 (b.toNat : Int)) _ w.heap.size 0 _ dk HH0.out (by rw [hF.size, Array.size_replicate]) j (by rw [hF.size]; rw [Lib.decDigits_length] at hj; exact hj))
      rw [Lib.decDigits_length] at h
      exact h
    obtain ⟨os, eo⟩ := Lib.fin_at w (.cells Lib.zeros24 152) dk k 0
    have hnx2 : Below w.heap.size w ((Sort.putRow (fun (b : UInt8) => Value.int .u8 (b.toNat : Int)) (w.alloc (.cells Lib.zeros24 152)) w.heap.size 0 dk).drewN k) := by rw [eo]; exact Lib.below_grow w.heap.size w (Nat.le_refl _) k os
    have HE := Lib.hid eo
    clear HF eo
    go_wp2
    go_ret
    exact ⟨rfl, hnx2⟩

set_option maxHeartbeats 1000000 in
theorem FormatUint_any (u : Nat) (w : World) (hu64 : u < 18446744073709551616) (htab : Tab w) :
    Calls Tryz.prog 144 #[.int .u64 u, .int .i64 10] w fun e w' => e = .returned (.string ⟨(Lib.decDigits u).toArray⟩) ∧ Below w.heap.size w w' := by
  have HT := Lib.hid htab
  clear htab
  go_enter Tryz.func144, Tryz.ntmps144
  go_wp2_with fail
  refine (FormatUintIn_any u w hu64 HT.out).mono ?_
  rintro e w' ⟨rfl, hb⟩
  go_wp2
  go_ret
  exact ⟨rfl, hb⟩

set_option maxHeartbeats 2000000 in
/-- Digits: how many there are -/
theorem Digits_any (a : Option Addr) (cap : Nat) (l : List Nat) (w : World) (hl : l.length ≤ 1073741824) (hlo : Lo 4294967296 l) (hrd : Rd w .u32 a l) (htab : Tab w) :
    Calls Tryz.prog 140 #[.slice a l.length cap] w fun e w' => e = .returned (.int .i64 ((dg 10 (vl 1000000000 l)).length : Nat)) ∧ Below w.heap.size w w' := by
  have hn1 := nlen hlo
  have HLO := Lib.hid hlo; have HT := Lib.hid htab
  clear hlo htab
  go_enter Tryz.func140, Tryz.ntmps140
  go_wp2_with fail
  refine (Norm_any a cap l w (by omega) HLO.out hrd).mono ?_
  rintro e w1 ⟨a1, c1, rfl, hown1, hb1⟩
  rcases Nat.eq_zero_or_pos (dg 1000000000 (vl 1000000000 l)).length with h0 | h0
  · have hz : vl 1000000000 l = 0 := (dg_eq_nil (by omega)).1 (List.eq_nil_of_length_eq_zero h0)
    have HZ := Lib.hid hz
    rw [h0]
    clear hown1 hz h0 hn1
    go_wp2
    go_ret
    exact ⟨by rw [HZ.out, dg_zero]; rfl, hb1⟩
  · obtain ⟨h, hh⟩ : ∃ h, (dg 1000000000 (vl 1000000000 l)).length = h + 1 := ⟨_, (Nat.succ_pred_eq_of_pos h0).symm⟩
    have hd := nDigits_high hh
    obtain ⟨b, off, x, e1, HX, hx, c1'⟩ := hown1.rd.get (Lo_dg (by omega) _) h (by omega)
    have hdx : Lib.nDigits x = (Lib.decDigits x).length := (Lib.decDigits_length x).symm
    rw [← HX.out, hdx] at hd
    have h20 : (Lib.decDigits x).length ≤ 20 := by
      rcases Nat.eq_zero_or_pos x with e | e
      · subst e; rw [← hdx, Lib.nDigits_small (by omega)]; omega
      · rw [← hdx]; have := Lib.numDigits_eq x e (by omega); split at this <;> omega
    have HD := Lib.hid hd
    have hF := FormatUint_any x w1 (by omega) (HT.out.below hb1)
    have HF := Lib.hid hF
    rw [hh]
    subst e1
    clear hown1 hd hdx h0 hF
    have hcI : w1.cell? ⟨b, off + h, none⟩ = some (.int .u32 (x : Int)) := c1'
    have hn2 : h ≤ l.length := by omega
    clear hn1 hh c1'
    go_wp2_with fail
    refine HF.out.mono ?_
    rintro e w2 ⟨rfl, hb2⟩
    go_wp2
    go_ret
    refine ⟨?_, hb1.trans (hb2.mono hb1.size)⟩
    rw [HD.out]
    exact ret_int (by simp)
end Go.Proofs.YtpgiljibicigeaaGreatDoor

/- Walks: Text. -/
namespace Go.Proofs.YtpgiljibicigeaaGreatDoor
open Go.RowKit LM

/-- bytes as numbers -/
def nb (l : List UInt8) : List Nat := l.map (fun (b : UInt8) => b.toNat)
theorem nb_length (l : List UInt8) : (nb l).length = l.length := by simp [nb]
/-- a slice of the call's own as a text -/
theorem conv_back {P : Program} (w : World) (src dst e : TypeId) (B g cap q : Nat) (l : List UInt8) (hs : P.underlying src = some (.slice e)) (he : P.underlying e = some (.int .u8)) (hd : P.underlying dst = some .string)
    (hown : Own w B e .u8 (some ⟨g, 0, none⟩) cap (nb l)) (hq : q = l.length) :
    (convert src dst (.slice (some ⟨g, 0, none⟩) q cap)).run P w = .ok (.string ⟨l.toArray⟩) w := by
  subst hq
  refine run_convert_bytes_back w src dst e ⟨g, 0, none⟩ cap l hs he hd (fun j hj => ?_)
  rw [Lib.add_plain, Nat.zero_add, hown.cell j (by rw [nb_length]; exact hj)]
  simp [nb, hj]

end Go.Proofs.YtpgiljibicigeaaGreatDoor

/- Walks: isDigits, limbOf. -/
namespace Go.Proofs.YtpgiljibicigeaaGreatDoor
open Go.RowKit LM

/-- a digit's byte -/
def isD (c : UInt8) : Bool := decide (48 ≤ c.toNat ∧ c.toNat ≤ 57)
/-- what digits write -/
def dv (l : List UInt8) : Nat := l.foldl (fun n c => 10 * n + (c.toNat - 48)) 0
theorem dv_snoc (l : List UInt8) (c : UInt8) : dv (l ++ [c]) = 10 * dv l + (c.toNat - 48) := by simp [dv]
theorem take_snocB (s : ByteArray) (k : Nat) (h : k < s.size) : s.data.toList.take (k + 1) = s.data.toList.take k ++ [s[k]] := by
  rw [List.take_succ_eq_append_getElem (by simpa using h)]; rfl
theorem dv_lt {l : List UInt8} (h : ∀ c ∈ l, isD c = true) : dv l < 10 ^ l.length := by
  generalize hn : l.length = n
  induction n generalizing l with
  | zero => obtain rfl := List.eq_nil_of_length_eq_zero hn; simp [dv]
  | succ n ih =>
    obtain ⟨t, c, rfl⟩ : ∃ t c, l = t ++ [c] := ⟨l.dropLast, l.getLast (by intro e; rw [e] at hn; simp at hn), (List.dropLast_concat_getLast _).symm⟩
    have h1 := ih (l := t) (fun x hx => h x (by simp [hx])) (by simpa using hn)
    have h2 := h c (by simp)
    simp [isD] at h2
    rw [dv_snoc, Nat.pow_succ]; omega

/-- digits alone, and one at least -/
def okD (s : ByteArray) : Bool := s.data.toList.all isD && !s.data.toList.isEmpty
theorem okD_bad {s : ByteArray} {k : Nat} (h : k < s.size) (hb : s[k].toNat < 48 ∨ 57 < s[k].toNat) : okD s = false := by
  have hm : s[k] ∈ s.data.toList := by have : s[k] = s.data.toList[k]'(by simpa using h) := rfl; rw [this]; exact List.getElem_mem _
  unfold okD
  cases e : s.data.toList.all isD with
  | false => rfl
  | true =>
    have := List.all_eq_true.1 e _ hm
    simp [isD] at this; omega
theorem okD_step {s : ByteArray} {k : Nat} (h : k < s.size) (ha : (s.data.toList.take k).all isD = true) (h1 : 48 ≤ s[k].toNat) (h2 : s[k].toNat ≤ 57) : (s.data.toList.take (k + 1)).all isD = true := by
  rw [take_snocB s k h, List.all_append, ha]; simp [isD, h1, h2]

set_option maxHeartbeats 1000000 in
theorem isDigits_any (s : ByteArray) (w : World) (hs : s.size ≤ maxLen) :
    Calls Tryz.prog 131 #[.string s] w fun e w' => e = .returned (.bool (okD s)) ∧ w = w' := by
  unfold maxLen at hs
  go_enter Tryz.func131, Tryz.ntmps131
  go_wp2
  go_loop [6] (fun i => ∃ k : Nat, k ≤ s.size ∧ i = .int .i64 k ∧ Hid ((s.data.toList.take k).all isD = true)) (fun i => s.size - (intOf i).toNat)
  case atStart => exact ⟨0, Nat.zero_le _, rfl, (by simp : (s.data.toList.take 0).all isD = true)⟩
  case round =>
    obtain ⟨k, hk, rfl, HA⟩ := hrel
    by_cases hlt : k < s.size
    · by_cases hc1 : s[k].toNat < 48
      · have hI : (s[k].toNat : Int) < 48 := by omega
        have HB := Lib.hid (okD_bad hlt (.inl hc1))
        go_wp2
        go_ret
        exact ⟨ret_bool HB.out.symm, rfl⟩
      · by_cases hc2 : 57 < s[k].toNat
        · have hI : ¬ (s[k].toNat : Int) < 48 := by omega
          have hI2 : 57 < (s[k].toNat : Int) := by omega
          have HB := Lib.hid (okD_bad hlt (.inr hc2))
          go_wp2
          go_ret
          exact ⟨ret_bool HB.out.symm, rfl⟩
        · have hI : ¬ (s[k].toNat : Int) < 48 := by omega
          have hI2 : ¬ 57 < (s[k].toNat : Int) := by omega
          go_wp2
          go_round
          case rel => exact ⟨k + 1, by omega, by go_num, okD_step hlt HA.out (by omega) (by omega)⟩
          case measure => simp [intOf]; omega
    · obtain rfl : k = s.size := by omega
      go_wp2
      go_ret
      refine ⟨ret_bool ?_, rfl⟩
      have h := HA.out
      rw [List.take_of_length_le (by simp)] at h
      unfold okD
      rw [h, Lib.toList_data]; rfl

set_option maxHeartbeats 1000000 in
theorem limbOf_any (s : ByteArray) (w : World) (hs : s.size ≤ 9) (hd : ∀ c ∈ s.data.toList, isD c = true) :
    Calls Tryz.prog 132 #[.string s] w fun e w' => e = .returned (.int .u32 (dv s.data.toList)) ∧ w = w' := by
  have HD := Lib.hid hd
  clear hd
  go_enter Tryz.func132, Tryz.ntmps132
  go_wp2
  go_loop [3, 7] (fun n i => ∃ k q : Nat, k ≤ s.size ∧ i = .int .i64 k ∧ n = .int .u32 q ∧ Hid (q = dv (s.data.toList.take k))) (fun _ i => s.size - (intOf i).toNat)
  case atStart => exact ⟨0, 0, Nat.zero_le _, rfl, rfl, rfl⟩
  case round =>
    obtain ⟨k, q, hk, rfl, rfl, HQ⟩ := hrel
    by_cases hlt : k < s.size
    · have hq : q < 100000000 := by
        have h1 := dv_lt (l := s.data.toList.take k) (fun c hc => HD.out c (List.mem_of_mem_take hc))
        have h2 : (s.data.toList.take k).length ≤ 8 := by rw [List.length_take]; omega
        have h3 := pow10_le h2
        rw [HQ.out]; omega
      have hb := HD.out s[k] (by have : s[k] = s.data.toList[k]'(by simpa using hlt) := rfl; rw [this]; exact List.getElem_mem _)
      simp [isD] at hb
      obtain ⟨hb1, hb2⟩ := hb
      go_wp2
      go_round
      case rel => exact ⟨k + 1, 10 * q + (s[k].toNat - 48), by omega, by go_num, by go_num, (by rw [take_snocB s k hlt, dv_snoc, ← HQ.out] : 10 * q + (s[k].toNat - 48) = dv (s.data.toList.take (k + 1)))⟩
      case measure => simp [intOf]; omega
    · obtain rfl : k = s.size := by omega
      go_wp2
      go_ret
      have h := HQ.out
      rw [List.take_of_length_le (by simp)] at h
      exact ⟨by rw [← h]; rfl, rfl⟩

theorem dv_append (l m : List UInt8) : dv (l ++ m) = dv l * 10 ^ m.length + dv m := by
  generalize hn : m.length = n
  induction n generalizing m with
  | zero => obtain rfl := List.eq_nil_of_length_eq_zero hn; simp [dv]
  | succ n ih =>
    obtain ⟨t, c, rfl⟩ : ∃ t c, m = t ++ [c] := ⟨m.dropLast, m.getLast (by intro e; rw [e] at hn; simp at hn), (List.dropLast_concat_getLast _).symm⟩
    have h1 := ih t (by simpa using hn)
    rw [← List.append_assoc, dv_snoc, dv_snoc, h1, Nat.pow_succ]
    rw [Nat.mul_add, Nat.add_assoc, Nat.mul_left_comm, Nat.mul_comm 10 (10 ^ n)]
theorem piece_dv {s : ByteArray} {a e : Nat} (h : a ≤ e) (he : e ≤ s.size) : dv (s.data.toList.take e) = dv (s.data.toList.take a) * 10 ^ (e - a) + dv (s.extract a e).data.toList := by
  have h1 : s.data.toList.take e = s.data.toList.take a ++ (s.extract a e).data.toList := by
    rw [Lib.extract_data]
    have h2 : s.data.toList.take e = (s.data.toList.take e).take a ++ (s.data.toList.take e).drop a := (List.take_append_drop _ _).symm
    rw [List.take_take, Nat.min_eq_left h, List.drop_take] at h2
    exact h2
  have h3 : (s.extract a e).data.toList.length = e - a := by
    rw [Lib.extract_data, List.length_take, List.length_drop]
    have : s.data.toList.length = s.size := by rw [Array.length_toList]; rfl
    omega
  rw [h1, dv_append, h3]
theorem piece_D {s : ByteArray} {a e : Nat} (h : ∀ c ∈ s.data.toList, isD c = true) : ∀ c ∈ (s.extract a e).data.toList, isD c = true := by
  intro c hc
  rw [Lib.extract_data] at hc
  exact h c (List.mem_of_mem_drop (List.mem_of_mem_take hc))

theorem parse_step {L : List Nat} {k p r d : Nat} (hL : L.length = k) (h : vl 1000000000 L + 1000000000 ^ k * (r * 10 ^ 9 + p) = d) : vl 1000000000 (L ++ [p]) + 1000000000 ^ (k + 1) * r = d := by
  rw [vl_append, vl_one, hL, Nat.pow_succ, ← h, show (10 : Nat) ^ 9 = 1000000000 by decide, Nat.mul_add, Nat.mul_comm r, ← Nat.mul_assoc]
  omega
theorem parse_last {L : List Nat} {k p d n : Nat} (hL : L.length = k) (h : vl 1000000000 L + 1000000000 ^ k * (dv [] * 10 ^ n + p) = d) : vl 1000000000 (L ++ [p]) + 1000000000 ^ (k + 1) * dv [] = d := by
  have h0 : dv [] = 0 := rfl
  rw [h0] at h ⊢
  rw [Nat.zero_mul, Nat.zero_add] at h
  rw [Nat.mul_zero, Nat.add_zero, vl_append, vl_one, hL]; exact h

theorem slice_piece {P : Program} (t : TypeId) (ht : P.underlying t = some .string) {s : ByteArray} {a e : Nat} (h : a ≤ e) (he : e ≤ s.size) (ha : max 0 ((e : Int) - 9) = (a : Int)) :
    ∀ W, (Instr.slice t (.string s) (some (.int .i64 (max 0 ((e : Int) - 9)))) (some (.int .i64 (e : Int))) none).run P W = .ok (.string (s.extract a e)) W := by
  intro W
  rw [ha, run_slice_string (w := W) t s .i64 .i64 (a : Int) (e : Int) ht (by omega) (by omega) (by omega), Int.toNat_natCast, Int.toNat_natCast]

set_option maxHeartbeats 4000000 in
set_option maxRecDepth 100000 in
theorem Parse_ok (s : ByteArray) (w : World) (hs : s.size ≤ 140737488351232) (hok : okD s = true) :
    Calls Tryz.prog 122 #[.string s] w fun e w' => ∃ a' cap', e = .returned (.tuple #[.slice a' (dg 1000000000 (dv s.data.toList)).length cap', .int .i64 0]) ∧
      Own w' w.heap.size 141 .u32 a' cap' (dg 1000000000 (dv s.data.toList)) ∧ Below w.heap.size w w' := by
  have hI := isDigits_any s w (by unfold maxLen; omega)
  rw [hok] at hI
  have hD : ∀ c ∈ s.data.toList, isD c = true := by
    unfold okD at hok
    simp only [Bool.and_eq_true] at hok
    exact List.all_eq_true.1 hok.1
  have HI := Lib.hid hI; have HD := Lib.hid hD
  clear hI hD hok
  go_enter Tryz.func122, Tryz.ntmps122
  go_wp2_with fail
  refine HI.out.mono ?_
  rintro e w' ⟨rfl, rfl⟩
  go_wp2_with (at_make; refine wp_make0 _ rfl _ _ 125 rfl w.heap.size 141 .u32 4 Tryz.underlying125 infoU32 _ _ _ (s.size / 9 + 1) rfl rfl (by omega) (by omega) (by unfold maxLen; omega) (Nat.le_refl _) ?_)
  intro w1 hown1 hb1
  have hsz : s.data.toList.length = s.size := by rw [Array.length_toList]; rfl
  have HSZ := Lib.hid hsz
  clear hsz
  go_wp2_with fail
  go_loopw [4, 5] (fun v4 i wr => ∃ (E : Int) (k : Nat) (L : List Nat), E ≤ s.size ∧ -9 < E ∧ 9 * (k : Int) + E ≤ s.size ∧ (s.size : Int) ≤ 9 * (k : Int) + E ∧ i = .int .i64 E ∧ v4 = .slice (some ⟨w.heap.size, 0, none⟩) k (s.size / 9 + 1) ∧ Hid (L.length = k) ∧ Hid (Lo 1000000000 L) ∧
      Hid (vl 1000000000 L + 1000000000 ^ k * dv (s.data.toList.take E.toNat) = dv s.data.toList) ∧ Own wr w.heap.size 141 .u32 (some ⟨w.heap.size, 0, none⟩) (s.size / 9 + 1) L ∧ Below w.heap.size w wr) (fun _ i _ => (intOf i).toNat)
  case atStart => exact ⟨s.size, 0, [], by omega, by omega, by omega, by omega, rfl, rfl, (rfl : ([] : List Nat).length = 0), Lo_nil _, (by rw [Int.toNat_natCast, List.take_of_length_le (by rw [HSZ.out]; omega)]; simp [vl] : vl 1000000000 [] + 1000000000 ^ 0 * dv (s.data.toList.take ((s.size : Int)).toNat) = dv s.data.toList), hown1, hb1⟩
  case round =>
    obtain ⟨E, k, L, hE1, hE2, hE3, hE4, rfl, rfl, HLL, HLo, HV, hownr, hblr⟩ := hrel
    by_cases hpos : 0 < E
    · obtain ⟨e, rfl⟩ : ∃ e : Nat, E = e := ⟨E.toNat, by omega⟩
      have hV := HV.out
      rw [Int.toNat_natCast] at hV
      by_cases h9 : 9 ≤ e
      · have hL := limbOf_any (s.extract (e - 9) e) wr (by rw [ByteArray.size_extract]; omega) (piece_D HD.out)
        have hlt := dv_lt (piece_D (a := (e - 9)) (e := e) HD.out)
        have hlen : (s.extract (e - 9) e).data.toList.length = e - (e - 9) := by rw [Lib.extract_data, List.length_take, List.length_drop, HSZ.out]; omega
        have hp : dv (s.extract (e - 9) e).data.toList < 1000000000 := by
          rw [hlen] at hlt
          have : 10 ^ (e - (e - 9)) ≤ 10 ^ 9 := Nat.pow_le_pow_right (by omega) (by omega)
          rw [show (10 : Nat) ^ 9 = 1000000000 by decide] at this
          omega
        have hsl := slice_piece (P := Tryz.prog) 9 Tryz.underlying9 (s := s) (a := (e - 9)) (e := e) (by omega) (by omega) (by omega)
        obtain ⟨p, hpe⟩ : ∃ p, p = dv (s.extract (e - 9) e).data.toList := ⟨_, rfl⟩
        rw [← hpe] at hp hL
        have HP := Lib.hid hpe; have HL := Lib.hid hL; have HLEN := Lib.hid hlen
        have hlk := HLL.out
        have hfit : L.length + 1 ≤ s.size / 9 + 1 := by omega
        have HFIT := Lib.hid hfit
        clear hL hlt hpe hlen hlk hfit hV
        go_wp2_with fail
        refine HL.out.mono ?_
        rintro e' w' ⟨rfl, rfl⟩
        go_wp2_with (at_builtin; refine wp_pushFits wr rfl _ _ 125 rfl w.heap.size 141 .u32 4 Tryz.underlying125 infoU32 w.heap.size (s.size / 9 + 1) k L HLL.out.symm rfl _ p rfl _ rfl hownr HFIT.out (hblr.size) ?_)
        intro w3 hown3 hb3
        have hbl3 := hblr.trans hb3
        clear hownr hblr hb3 hown1 hb1 HL hsl
        go_wp2
        go_roundw
        case rel => exact ⟨(e : Int) - 9, k + 1, L ++ [p], by omega, by omega, by omega, by omega, rfl, rfl, (by rw [List.length_append, HLL.out]; rfl : (L ++ [p]).length = k + 1), (Lo_append HLo.out (Lo_one hp) : Lo 1000000000 (L ++ [p])), (by have h1 := HV.out; rw [Int.toNat_natCast, piece_dv (s := s) (a := e - 9) (e := e) (by omega) (by omega), show e - (e - 9) = 9 by omega, ← HP.out] at h1; rw [show ((e : Int) - 9).toNat = e - 9 by omega]; exact parse_step HLL.out h1 : vl 1000000000 (L ++ [p]) + 1000000000 ^ (k + 1) * dv (s.data.toList.take ((e : Int) - 9).toNat) = dv s.data.toList), hown3, hbl3⟩
        case measure => simp [intOf]; omega
      · have hL := limbOf_any (s.extract 0 e) wr (by rw [ByteArray.size_extract]; omega) (piece_D HD.out)
        have hlt := dv_lt (piece_D (a := 0) (e := e) HD.out)
        have hlen : (s.extract 0 e).data.toList.length = e - 0 := by rw [Lib.extract_data, List.length_take, List.length_drop, HSZ.out]; omega
        have hp : dv (s.extract 0 e).data.toList < 1000000000 := by
          rw [hlen] at hlt
          have : 10 ^ (e - 0) ≤ 10 ^ 9 := Nat.pow_le_pow_right (by omega) (by omega)
          rw [show (10 : Nat) ^ 9 = 1000000000 by decide] at this
          omega
        have hsl := slice_piece (P := Tryz.prog) 9 Tryz.underlying9 (s := s) (a := 0) (e := e) (by omega) (by omega) (by omega)
        obtain ⟨p, hpe⟩ : ∃ p, p = dv (s.extract 0 e).data.toList := ⟨_, rfl⟩
        rw [← hpe] at hp hL
        have HP := Lib.hid hpe; have HL := Lib.hid hL; have HLEN := Lib.hid hlen
        have hlk := HLL.out
        have hfit : L.length + 1 ≤ s.size / 9 + 1 := by omega
        have HFIT := Lib.hid hfit
        clear hL hlt hpe hlen hlk hfit hV
        go_wp2_with fail
        refine HL.out.mono ?_
        rintro e' w' ⟨rfl, rfl⟩
        go_wp2_with (at_builtin; refine wp_pushFits wr rfl _ _ 125 rfl w.heap.size 141 .u32 4 Tryz.underlying125 infoU32 w.heap.size (s.size / 9 + 1) k L HLL.out.symm rfl _ p rfl _ rfl hownr HFIT.out (hblr.size) ?_)
        intro w3 hown3 hb3
        have hbl3 := hblr.trans hb3
        clear hownr hblr hb3 hown1 hb1 HL hsl
        go_wp2
        go_roundw
        case rel => exact ⟨(e : Int) - 9, k + 1, L ++ [p], by omega, by omega, by omega, by omega, rfl, rfl, (by rw [List.length_append, HLL.out]; rfl : (L ++ [p]).length = k + 1), (Lo_append HLo.out (Lo_one hp) : Lo 1000000000 (L ++ [p])), (by have h1 := HV.out; rw [Int.toNat_natCast, piece_dv (s := s) (a := 0) (e := e) (by omega) (by omega), ← HP.out, List.take_zero] at h1; rw [show ((e : Int) - 9).toNat = 0 by omega, List.take_zero]; exact parse_last HLL.out h1 : vl 1000000000 (L ++ [p]) + 1000000000 ^ (k + 1) * dv (s.data.toList.take ((e : Int) - 9).toNat) = dv s.data.toList), hown3, hbl3⟩
        case measure => simp [intOf]; omega
    · have hz : E.toNat = 0 := by omega
      have hV := HV.out
      rw [hz, List.take_zero] at hV
      have hval : tr L = dg 1000000000 (dv s.data.toList) := by
        rw [tr_eq (by omega) HLo.out, ← hV]; simp [dv]
      have hlk := HLL.out
      have hR := trim_any (some ⟨w.heap.size, 0, none⟩) (s.size / 9 + 1) L wr (by omega) hownr.rd (by omega)
      have ht2 := tr_take L
      have hown4 := hownr.take (tr L).length (by rw [ht2]; simp; omega)
      rw [← ht2] at hown4
      rw [hval] at hR hown4
      rw [hlk] at hR
      have HR := Lib.hid hR
      clear hR ht2 hval hV hlk hownr hown1
      go_wp2_with fail
      refine HR.out.mono ?_
      rintro e w4 ⟨rfl, rfl⟩
      go_wp2
      go_ret2
      exact ⟨_, _, rfl, hown4, hblr⟩
end Go.Proofs.YtpgiljibicigeaaGreatDoor

/- Walks: Shift. -/
namespace Go.Proofs.YtpgiljibicigeaaGreatDoor
open Go.RowKit LM

theorem shift_pow (n : Nat) : 1000000000 ^ (n / 9) * 10 ^ (n % 9) = 10 ^ n := by
  rw [show (1000000000 : Nat) = 10 ^ 9 by decide, ← Nat.pow_mul, ← Nat.pow_add, Nat.div_add_mod]
end Go.Proofs.YtpgiljibicigeaaGreatDoor
