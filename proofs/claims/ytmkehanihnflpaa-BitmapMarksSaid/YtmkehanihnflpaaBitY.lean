/- The law BitmapMarks walked. -/
import Derived.Test.YtmkehanihnflpaaBitX
namespace Go.Proofs.Ytmkehanihnflpaa
open Go.RowKit BM

theorem mkW_and (l : List Nat) (o i : Bool) (k m : Int) (n : Nat) (h : k ≠ m) : mk (isW l o i k) n &&& mk (isW l o i m) n = 0#64 := by
  apply BM.ext; intro j hj
  rw [BitVec.getLsbD_and, mk_bit, mk_bit]
  have : (isW l o i k j && isW l o i m j) = false := by
    unfold isW
    by_cases e : ((wh l o i j : Nat) : Int) = k
    · rw [e]; simp [h]
    · simp [e]
  cases h1 : isW l o i k j
  · simp
  · rw [h1] at this; simp at this; simp [this]
theorem mkW_in (l : List Nat) (o i : Bool) (k : Int) (n : Nat) (f : Nat → Bool) (hw : ∀ c o i, (((what c o i : Nat) : Int) == k) = (f c && !nextIn c o i)) : mk (isW l o i k) n &&& mk (inW l o i) n = 0#64 := by
  apply BM.ext; intro j hj
  rw [BitVec.getLsbD_and, mk_bit, mk_bit]
  have e : isW l o i k j = (f (byte l j) && !inW l o i j) := by unfold isW wh; rw [hw]; rfl
  rw [e]
  cases inW l o i j <;> simp
theorem or_and {a b c : BitVec 64} (h1 : a &&& c = 0#64) (h2 : b &&& c = 0#64) : (a ||| b) &&& c = 0#64 := by
  apply BM.ext; intro j hj
  have e1 := congrArg (fun x => x.getLsbD j) h1
  have e2 := congrArg (fun x => x.getLsbD j) h2
  simp only [BitVec.getLsbD_and, BitVec.getLsbD_zero] at e1 e2
  rw [BitVec.getLsbD_and, BitVec.getLsbD_or, BitVec.getLsbD_zero]
  cases ha : a.getLsbD j <;> cases hb : b.getLsbD j <;> cases hc : c.getLsbD j <;> simp_all
theorem and_or {a b c : BitVec 64} (h1 : c &&& a = 0#64) (h2 : c &&& b = 0#64) : c &&& (a ||| b) = 0#64 := by
  rw [BitVec.and_comm]; exact or_and (by rw [BitVec.and_comm]; exact h1) (by rw [BitVec.and_comm]; exact h2)
theorem bits_low {f : Nat → Bool} {n j : Nat} (h : n ≤ j) : (mk f n).getLsbD j = false := by rw [mk_bit]; simp [show ¬ j < n by omega]
/-- what the law asks of the masks -/
def Facts (q0 q1 q2 q3 q4 q5 q6 : BitVec 64) (n : Nat) : Prop :=
  (val (q2 &&& q3) == 0) = true ∧ (val ((q2 ||| q3) &&& (q4 ||| q5 ||| q6)) == 0) = true ∧ (val (q4 &&& q5) == 0) = true ∧ (val ((q4 ||| q5) &&& q6) == 0) = true ∧
  (val ((q2 ||| q3 ||| q4 ||| q5 ||| q6) &&& q1) == 0) = true ∧ (val ((q2 ||| q3 ||| q4 ||| q5 ||| q6) &&& q0) == 0) = true ∧ (n < 64 → val (sr (q2 ||| q3 ||| q4 ||| q5 ||| q6 ||| q0 ||| q1) n) = 0)
theorem z_of {x : BitVec 64} (h : x = 0#64) : (val x == 0) = true := by rw [h]; rfl
theorem facts {l : List Nat} {o i : Bool} {q0 q1 q2 q3 q4 q5 q6 : BitVec 64} {x y : Bool} (hg : Gs l o i q0 q1 q2 q3 q4 q5 q6 x y) : Facts q0 q1 q2 q3 q4 q5 q6 l.length := by
  obtain ⟨rfl, rfl, rfl, rfl, rfl, rfl, rfl, _, _⟩ := hg
  have hd : ∀ k m : Int, k ≠ m → _ := fun k m h => mkW_and l o i k m l.length h
  have i1 := mkW_in l o i 111 l.length _ (fun c o i => w_open c o i)
  have i2 := mkW_in l o i 99 l.length _ (fun c o i => w_close c o i)
  have i3 := mkW_in l o i 58 l.length _ (fun c o i => w_colon c o i)
  have i4 := mkW_in l o i 44 l.length _ (fun c o i => w_comma c o i)
  have i5 := mkW_in l o i 32 l.length _ (fun c o i => w_space c o i)
  refine ⟨z_of (hd _ _ (by decide)), z_of (or_and (and_or (and_or (hd _ _ (by decide)) (hd _ _ (by decide))) (hd _ _ (by decide))) (and_or (and_or (hd _ _ (by decide)) (hd _ _ (by decide))) (hd _ _ (by decide)))), z_of (hd _ _ (by decide)), z_of (or_and (hd _ _ (by decide)) (hd _ _ (by decide))), z_of (or_and (or_and (or_and (or_and i1 i2) i3) i4) i5), z_of (or_and (or_and (or_and (or_and (hd _ _ (by decide)) (hd _ _ (by decide))) (hd _ _ (by decide))) (hd _ _ (by decide))) (hd _ _ (by decide))), fun hn => ?_⟩
  have : sr (mk (isW l o i 111) l.length ||| mk (isW l o i 99) l.length ||| mk (isW l o i 58) l.length ||| mk (isW l o i 44) l.length ||| mk (isW l o i 32) l.length ||| mk (isW l o i 113) l.length ||| mk (inW l o i) l.length) l.length = 0#64 := by
    apply BM.ext; intro j hj
    unfold sr
    rw [BitVec.getLsbD_ushiftRight]
    simp only [BitVec.getLsbD_or, bits_low (Nat.le_add_right l.length j), BitVec.getLsbD_zero, Bool.or_false]
  rw [this]; rfl
theorem q_step {l : List Nat} {o i : Bool} {q0 q1 q2 q3 q4 q5 q6 : BitVec 64} {x y : Bool} (hg : Gs l o i q0 q1 q2 q3 q4 q5 q6 x y) {j : Nat} (hj : j < l.length) (h64 : l.length ≤ 64) :
    bitAt q1 j = stI l o i (j + 1) ∧ bitAt q0 j = (stI l o i (j + 1) != stI l o i j) := by
  obtain ⟨rfl, rfl, _⟩ := hg
  have hj2 : j < 64 := by omega
  unfold bitAt
  rw [mk_bit, mk_bit]
  refine ⟨by simp [hj, hj2, inW], ?_⟩
  simp only [hj, hj2, decide_true, Bool.true_and]
  unfold isW wh
  rw [w_q]
  simp only [stI, nextIn]
  cases isQ (byte l j) (stO l o j) <;> cases stI l o i j <;> rfl
set_option maxRecDepth 100000 in
set_option maxHeartbeats 4000000 in
theorem BitmapMarks_any (a : Option Addr) (cap : Nat) (l : List Nat) (o i : Bool) (w : World) (hl : l.length ≤ 9223372036854775807) (hcap : l.length ≤ cap) (hrd : Rd w .u8 a l) :
    Calls Try.prog 10 #[.slice a l.length cap, .agg #[.bool o, .bool i]] w fun e w' => e = .returned (.bool true) ∧ Below w.heap.size w w' := by
  obtain ⟨q0, q1, q2, q3, q4, q5, q6, x, y, hg⟩ := Gs_any (l.take 64) o i
  have h64 : (l.take 64).length ≤ 64 := by simp; omega
  have HF := Lib.hid (facts hg)
  have HS := Lib.hid (fun j (hj : j < (l.take 64).length) => q_step hg hj h64)
  have HY : Hid (stI (l.take 64) o i (l.take 64).length = y) := Lib.hid hg.2.2.2.2.2.2.2.2
  have HG := Lib.hid hg
  have HR := Lib.hid hrd
  clear hrd hg h64
  go_enter Try.func10, Try.ntmps10
  go_wp2_with fail
  refine (shown_any _).mono ?_
  rintro r w1 ⟨rfl, hb⟩
  have B0 : Below w.heap.size w (w.alloc (.cells #[.bool o, .bool i] 33)) := (Below.refl _ _).alloc (Nat.le_refl _) _
  have B1 := Lib.hid (B0.trans (hb.mono B0.size))
  have C1 := Cx.below (Cx.new w o i 33) hb
  clear hb B0
  obtain ⟨k0, k1⟩ := C1.out
  go_wp2_with fail
  clear k0 k1
  refine (Scan_g HG a cap _ hl hcap (HR.out.below B1.out)).mono ?_
  rintro r w2 ⟨rfl, hb⟩
  have B2 := Lib.hid (B1.out.trans (hb.mono B1.out.size))
  have C2 := Cx.below C1 hb
  clear hb C1 B1
  have n1 : ¬ w.heap.size = w2.heap.size := by have := Cx.lt C2; omega
  have n2 : ¬ w.heap.size = w2.heap.size + 1 := by have := Cx.lt C2; omega
  have hlt := Cx.lt C2
  obtain ⟨k0, k1⟩ := C2.out
  obtain ⟨t1, t2, t3, t4, t5, t6, t7⟩ := HF.out
  have uo := u_or
  have ua := u_and
  have us := u_shr
  by_cases hm : l.length ≤ 64
  · have e64 : (l.take 64).length = l.length := by simp; omega
    rw [e64] at t7
    have E64 := Lib.hid e64
    clear e64
    by_cases hm2 : l.length < 64
    · have t8 := t7 hm2
      clear t7
      go_upto_region 6 with (fail)
      clear t1 t2 t3 t4
      generalize q2 ||| q3 ||| q4 ||| q5 ||| q6 = A at *
      have t5' : val (A &&& q1) = 0 := by simpa using t5
      have t6' : val (A &&& q0) = 0 := by simpa using t6
      clear t5 t6
      have hi : (l.length : Int) < 64 := by omega
      go_wp2
      clear uo ua t5' t6'
      go_loop [11, 12, 13] (fun s11 s12 _ => ∃ (j : Nat) (c : Bool), j ≤ l.length ∧ s12 = .int .i64 j ∧ s11 = .bool c ∧ Hid (stI (l.take 64) o i j = c)) (fun _ s12 _ => 64 - (intOf s12).toNat)
      case atStart => exact ⟨0, i, by omega, rfl, rfl, Lib.hid rfl⟩
      case round =>
        obtain ⟨j, c, hj, rfl, rfl, HC⟩ := hrel
        by_cases hlt : j < l.length
        · have hj2 : j < 64 := by omega
          obtain ⟨g1, g0⟩ := HS.out j (by rw [E64.out]; exact hlt)
          rw [HC.out] at g0
          have bi := bit_is
          obtain ⟨d, hd⟩ : ∃ d, stI (l.take 64) o i (j + 1) = d := ⟨_, rfl⟩
          have HD := Lib.hid hd
          rw [hd] at g1 g0
          clear hd us
          have bi1 := bi q1 j
          have bi0 := bi q0 j
          rw [g1] at bi1
          rw [g0] at bi0
          clear bi g1 g0
          cases c <;> cases d
          all_goals
            go_wp2
            go_round
            case rel => exact ⟨j + 1, _, by omega, by go_num, rfl, HD⟩
            case measure => simp [intOf]; omega
        · have hj1 : j = l.length := by omega
          subst hj1
          have HE : Hid (c = y) := Lib.hid (by rw [← HC.out, ← HY.out, E64.out])
          have hE := HE.out
          subst hE
          clear HE
          go_wp2
          go_ret
          exact ⟨by simp, (B2.out.alloc B2.out.size _).alloc (by have := B2.out.size; simp; omega) _⟩
    · clear t7
      go_upto_region 6 with (fail)
      clear t1 t2 t3 t4
      generalize q2 ||| q3 ||| q4 ||| q5 ||| q6 = A at *
      have t5' : val (A &&& q1) = 0 := by simpa using t5
      have t6' : val (A &&& q0) = 0 := by simpa using t6
      clear t5 t6
      have hi : ¬ (l.length : Int) < 64 := by omega
      go_wp2
      clear uo ua t5' t6'
      go_loop [11, 12, 13] (fun s11 s12 _ => ∃ (j : Nat) (c : Bool), j ≤ l.length ∧ s12 = .int .i64 j ∧ s11 = .bool c ∧ Hid (stI (l.take 64) o i j = c)) (fun _ s12 _ => 64 - (intOf s12).toNat)
      case atStart => exact ⟨0, i, by omega, rfl, rfl, Lib.hid rfl⟩
      case round =>
        obtain ⟨j, c, hj, rfl, rfl, HC⟩ := hrel
        by_cases hlt : j < l.length
        · have hj2 : j < 64 := by omega
          obtain ⟨g1, g0⟩ := HS.out j (by rw [E64.out]; exact hlt)
          rw [HC.out] at g0
          have bi := bit_is
          obtain ⟨d, hd⟩ : ∃ d, stI (l.take 64) o i (j + 1) = d := ⟨_, rfl⟩
          have HD := Lib.hid hd
          rw [hd] at g1 g0
          clear hd us
          have bi1 := bi q1 j
          have bi0 := bi q0 j
          rw [g1] at bi1
          rw [g0] at bi0
          clear bi g1 g0
          cases c <;> cases d
          all_goals
            go_wp2
            go_round
            case rel => exact ⟨j + 1, _, by omega, by go_num, rfl, HD⟩
            case measure => simp [intOf]; omega
        · have hj1 : j = l.length := by omega
          subst hj1
          have HE : Hid (c = y) := Lib.hid (by rw [← HC.out, ← HY.out, E64.out])
          have hE := HE.out
          subst hE
          clear HE
          go_wp2
          go_ret
          exact ⟨by simp, (B2.out.alloc B2.out.size _).alloc (by have := B2.out.size; simp; omega) _⟩
  · have E64 : Hid ((l.take 64).length = 64) := Lib.hid (by simp; omega)
    clear t7
    go_upto_region 6 with (fail)
    clear t1 t2 t3 t4
    generalize q2 ||| q3 ||| q4 ||| q5 ||| q6 = A at *
    have t5' : val (A &&& q1) = 0 := by simpa using t5
    have t6' : val (A &&& q0) = 0 := by simpa using t6
    clear t5 t6
    go_wp2
    clear uo ua t5' t6'
    go_loop [11, 12, 13] (fun s11 s12 _ => ∃ (j : Nat) (c : Bool), j ≤ 64 ∧ s12 = .int .i64 j ∧ s11 = .bool c ∧ Hid (stI (l.take 64) o i j = c)) (fun _ s12 _ => 64 - (intOf s12).toNat)
    case atStart => exact ⟨0, i, by omega, rfl, rfl, Lib.hid rfl⟩
    case round =>
      obtain ⟨j, c, hj, rfl, rfl, HC⟩ := hrel
      by_cases hlt : j < 64
      · have hj2 : j < 64 := by omega
        obtain ⟨g1, g0⟩ := HS.out j (by rw [E64.out]; exact hlt)
        rw [HC.out] at g0
        have bi := bit_is
        obtain ⟨d, hd⟩ : ∃ d, stI (l.take 64) o i (j + 1) = d := ⟨_, rfl⟩
        have HD := Lib.hid hd
        rw [hd] at g1 g0
        clear hd us
        have bi1 := bi q1 j
        have bi0 := bi q0 j
        rw [g1] at bi1
        rw [g0] at bi0
        clear bi g1 g0
        cases c <;> cases d
        all_goals
          go_wp2
          go_round
          case rel => exact ⟨j + 1, _, by omega, by go_num, rfl, HD⟩
          case measure => simp [intOf]; omega
      · have hj1 : j = 64 := by omega
        subst hj1
        have HE : Hid (c = y) := Lib.hid (by rw [← HC.out, ← HY.out, E64.out])
        have hE := HE.out
        subst hE
        clear HE
        go_wp2
        go_ret
        exact ⟨by simp, (B2.out.alloc B2.out.size _).alloc (by have := B2.out.size; simp; omega) _⟩
end Go.Proofs.Ytmkehanihnflpaa
