/- quote's reader: cutOff, point, piece walked. -/
import Derived.Test.YtpgiljibicigeaaGreatDoorQuoAs
import Derived.Lib.AppendStr
import Derived.RangeFuncOwn
import Derived.ArgAppend
import Derived.Lib.ConvBytes
set_option linter.unusedVariables false
set_option linter.unusedSimpArgs false
namespace Go.Proofs.YtpgiljibicigeaaGreatDoor
open Go.RowKit UM QM

theorem bl_app (s : ByteArray) (m : List Nat) (hm : ∀ x ∈ m, x < 256) : bl (s ++ tx m) = bl s ++ m := by
  have h : (s ++ tx m).data.toList = s.data.toList ++ (tx m).data.toList := by simp [ByteArray.data_append]
  unfold bl
  rw [h, List.map_append]
  congr 1
  exact bl_tx hm
set_option maxRecDepth 100000 in
set_option maxHeartbeats 1000000 in
theorem cutOff_any (s : ByteArray) (w : World) (hs : s.size ≤ 100) (ht : Sh w) :
    Calls Tryz.prog 110 #[.string s] w fun e w' => e = .returned (.bool (cutB (bl s))) ∧ ∃ n, w' = w.drewN n := by
  have e1 : (s ++ ⟨#[128, 128, 128]⟩ : ByteArray).size = s.size + 3 := by rw [ByteArray.size_append]; rfl
  have e2 : (s ++ ⟨#[191, 191, 191]⟩ : ByteArray).size = s.size + 3 := by rw [ByteArray.size_append]; rfl
  have H1 := Lib.hid (fun W r => Decode_any (s ++ ⟨#[128, 128, 128]⟩) W (by rw [e1]; omega) r)
  have H2 := Lib.hid (fun W r => Decode_any (s ++ ⟨#[191, 191, 191]⟩) W (by rw [e2]; omega) r)
  unfold ResDec at H1 H2
  have b1 : bl (s ++ ⟨#[128, 128, 128]⟩) = bl s ++ [128, 128, 128] := bl_app s [128, 128, 128] (by decide)
  have b2 : bl (s ++ ⟨#[191, 191, 191]⟩) = bl s ++ [191, 191, 191] := bl_app s [191, 191, 191] (by decide)
  rw [b1] at H1
  rw [b2] at H2
  have HT := Lib.hid ht
  unfold cutB
  generalize dcd (bl s ++ [128, 128, 128]) = D1 at *
  generalize dcd (bl s ++ [191, 191, 191]) = D2 at *
  obtain ⟨p1, n1, q1⟩ := D1
  obtain ⟨p2, n2, q2⟩ := D2
  clear e1 e2 b1 b2 ht
  cases q1
  all_goals
    go_enter Tryz.func110, Tryz.ntmps110
    go_wp2_with fail
    refine (H1.out _ HT.out).mono ?_
    rintro e w1 ⟨rfl, m1, rfl⟩
    go_wp2_with fail
    refine (H2.out _ (HT.out.dN _)).mono ?_
    rintro e w2 ⟨rfl, m2, rfl⟩
    go_wp2
    go_ret
    exact ⟨by simp, _, rfl⟩
theorem conv_rd {P : Program} (w : World) (src dst e : TypeId) (b off cap : Nat) (l : List Nat) (n : Nat) (hs : P.underlying src = some (.slice e)) (he : P.underlying e = some (.int .u8)) (hd : P.underlying dst = some .string)
    (hr : ∀ j, j < l.length → w.cell? ⟨b, off + j, none⟩ = some (.int .u8 ((l[j]?.getD 0 : Nat) : Int))) (hlo : ∀ x ∈ l, x < 256) (hn : n = l.length) :
    (convert src dst (.slice (some ⟨b, off, none⟩) n cap)).run P w = .ok (.string (tx l)) w := by
  subst hn
  have hl : l.length = (l.map UInt8.ofNat).length := by rw [List.length_map]
  rw [hl]
  refine run_convert_bytes_back w src dst e ⟨b, off, none⟩ cap (l.map UInt8.ofNat) hs he hd (fun j hj => ?_)
  have hj' : j < l.length := by rw [List.length_map] at hj; exact hj
  rw [Lib.add_plain, hr j hj']
  have h4 : l[j] < 256 := hlo _ (List.getElem_mem hj')
  simp [hj', Nat.mod_eq_of_lt h4]
set_option maxRecDepth 100000 in
set_option maxHeartbeats 2000000 in
theorem point_any (g : Nat) (a : Option Addr) (cap : Nat) (l : List Nat) (k : Nat) (w : World) (h : RB w g a cap l k 0) (hk : k < l.length) :
    Calls Tryz.prog 99 #[.pointer (some ⟨g, 0, none⟩)] w (ResP g a cap l (pointF l k) w) := by
  have HB := Lib.hid h
  obtain ⟨h0, h1, h2, hf, hr, ha, _, hl, hlo, hcap, hsh, hne⟩ := h
  obtain ⟨b, off, ea, hc0⟩ := hr k hk
  subst ea
  have hm : ∃ m : List Nat, m = (l.drop k).take 4 := ⟨_, rfl⟩
  obtain ⟨m, hm⟩ := hm
  have hml : m.length = min 4 (l.length - k) := by rw [hm]; simp
  have hmlo : ∀ x ∈ m, x < 256 := fun x hx => hlo x (List.mem_of_mem_drop (List.mem_of_mem_take (by rw [← hm]; exact hx)))
  have hcv : ∀ (n : Nat) (cp q : Nat), q = m.length → (convert 52 9 (.slice (some ⟨b, off + k, none⟩) q cp)).run Tryz.prog (w.drewN n) = .ok (.string (tx m)) (w.drewN n) := fun n cp q hq =>
    conv_rd _ _ _ 5 b (off + k) cp m q Tryz.underlying52 Tryz.underlying5 Tryz.underlying9 (fun j hj => by
      have hj2 : k + j < l.length := by omega
      obtain ⟨b', off', e', hc'⟩ := hr (k + j) hj2
      cases e'
      show w.cell? ⟨b, off + k + j, none⟩ = _
      rw [Nat.add_assoc, hc', hm]
      congr 3
      rw [List.getElem?_take, if_pos (by omega), List.getElem?_drop]) hmlo hq
  have hbm : bl (tx m) = m := bl_tx hmlo
  have HD := Lib.hid (fun W r => Decode_any (tx m) W (by rw [tx_size]; omega) r)
  have HC := Lib.hid (fun W r => cutOff_any (tx m) W (by rw [tx_size]; omega) r)
  unfold ResDec at HD
  rw [hbm] at HD HC
  have HS := Lib.hid hsh
  have hn : (dcd m).2.2 = true → (dcd m).2.1 ≤ m.length := fun h => (dcd_wd (dcd_ne h)).2
  unfold pointF
  rw [← hm]
  clear hbm
  generalize dcd m = DD at *
  obtain ⟨p, n, q⟩ := DD
  simp only at hn ⊢
  have hf0 := hf
  clear hf0
  by_cases h4 : k + 4 ≤ l.length
  · have h5 : (k : Int) + 4 ≤ (l.length : Int) := by omega
    have hc4 := fun n cp => hcv n cp 4 (by omega)
    have hn4 : q = true → n ≤ l.length - k := fun h => by have := hn h; omega
    clear hn
    clear hcv hm hr hsh hlo h2 hne ha hmlo hc0
    cases q
    · by_cases hcb : cutB m = true
      · rw [if_neg (by simp), if_pos hcb]
        rw [hcb] at HC
        clear hcb
        go_enter Tryz.func99, Tryz.ntmps99
        go_wp2
        go_quiet (fail)
        go_wp2_with fail
        refine (HD.out _ (HS.out.dN _)).mono ?_
        rintro e w2 ⟨rfl, m2, rfl⟩
        go_wp2_with fail
        refine (HC.out _ (HS.out.dN _)).mono ?_
        rintro e w3 ⟨rfl, m3, rfl⟩
        go_wp2
        go_ret2
        exact ⟨rfl, (HB.out.dN _).put l.length (Nat.le_refl _) rfl, gb_set (gb_dN (gb_refl _ _) _) _ _⟩
      · have hcf : cutB m = false := by simpa using hcb
        rw [if_neg (by simp), if_neg hcb]
        rw [hcf] at HC
        clear hcb hcf
        go_enter Tryz.func99, Tryz.ntmps99
        go_wp2
        go_quiet (fail)
        go_wp2_with fail
        refine (HD.out _ (HS.out.dN _)).mono ?_
        rintro e w2 ⟨rfl, m2, rfl⟩
        go_wp2_with fail
        refine (HC.out _ (HS.out.dN _)).mono ?_
        rintro e w3 ⟨rfl, m3, rfl⟩
        go_wp2
        go_ret2
        exact ⟨rfl, HB.out.dN _, gb_dN (gb_refl _ _) _⟩
    · rw [if_pos rfl]
      have hn5 := hn4 rfl
      clear hn4
      go_enter Tryz.func99, Tryz.ntmps99
      go_wp2
      go_quiet (fail)
      go_wp2_with fail
      refine (HD.out _ (HS.out.dN _)).mono ?_
      rintro e w2 ⟨rfl, m2, rfl⟩
      go_wp2
      go_ret2
      exact ⟨rfl, (HB.out.dN _).put (k + n) (by omega) (by omega), gb_set (gb_dN (gb_refl _ _) _) _ _⟩
  · have h5 : ¬ (k : Int) + 4 ≤ (l.length : Int) := by omega
    have hc4 := fun n cp => hcv n cp (l.length - k) (by omega)
    have hn4 : q = true → n ≤ l.length - k := fun h => by have := hn h; omega
    clear hn
    clear hcv hm hr hsh hlo h2 hne ha hmlo hc0
    cases q
    · by_cases hcb : cutB m = true
      · rw [if_neg (by simp), if_pos hcb]
        rw [hcb] at HC
        clear hcb
        go_enter Tryz.func99, Tryz.ntmps99
        go_wp2
        go_quiet (fail)
        go_wp2_with fail
        refine (HD.out _ (HS.out.dN _)).mono ?_
        rintro e w2 ⟨rfl, m2, rfl⟩
        go_wp2_with fail
        refine (HC.out _ (HS.out.dN _)).mono ?_
        rintro e w3 ⟨rfl, m3, rfl⟩
        go_wp2
        go_ret2
        exact ⟨rfl, (HB.out.dN _).put l.length (Nat.le_refl _) rfl, gb_set (gb_dN (gb_refl _ _) _) _ _⟩
      · have hcf : cutB m = false := by simpa using hcb
        rw [if_neg (by simp), if_neg hcb]
        rw [hcf] at HC
        clear hcb hcf
        go_enter Tryz.func99, Tryz.ntmps99
        go_wp2
        go_quiet (fail)
        go_wp2_with fail
        refine (HD.out _ (HS.out.dN _)).mono ?_
        rintro e w2 ⟨rfl, m2, rfl⟩
        go_wp2_with fail
        refine (HC.out _ (HS.out.dN _)).mono ?_
        rintro e w3 ⟨rfl, m3, rfl⟩
        go_wp2
        go_ret2
        exact ⟨rfl, HB.out.dN _, gb_dN (gb_refl _ _) _⟩
    · rw [if_pos rfl]
      have hn5 := hn4 rfl
      clear hn4
      go_enter Tryz.func99, Tryz.ntmps99
      go_wp2
      go_quiet (fail)
      go_wp2_with fail
      refine (HD.out _ (HS.out.dN _)).mono ?_
      rintro e w2 ⟨rfl, m2, rfl⟩
      go_wp2
      go_ret2
      exact ⟨rfl, (HB.out.dN _).put (k + n) (by omega) (by omega), gb_set (gb_dN (gb_refl _ _) _) _ _⟩
set_option maxRecDepth 100000 in
set_option maxHeartbeats 2000000 in
theorem piece_any (g : Nat) (a : Option Addr) (cap : Nat) (l : List Nat) (k : Nat) (w : World) (h : RB w g a cap l k 0) :
    Calls Tryz.prog 90 #[.pointer (some ⟨g, 0, none⟩)] w (ResP g a cap l (pieceF l k) w) := by
  have HP := Lib.hid (peek_any g a cap l k 0 w h)
  have HB := Lib.hid h
  obtain ⟨hk, hl, hlo⟩ := h.facts
  have hpos := pk_pos (l := l) (k := k)
  have bd := pk_bd hlo k
  obtain ⟨h0, h1, h2, hfz, _⟩ := h
  have HE := Lib.hid (fun W r => escaped_any g a cap l (k + 1) W r)
  have HQ := Lib.hid (fun W r hk => point_any g a cap l k W r hk)
  unfold ResP at HE HQ
  unfold pieceF
  generalize escF l (k + 1) = E at *
  generalize pointF l k = Q at *
  obtain ⟨x1, x2, x3⟩ := E
  obtain ⟨y1, y2, y3⟩ := Q
  generalize pk l k = p at *
  clear h0 h2 hlo
  by_cases c1 : p < 32
  · rw [if_pos c1]
    clear hpos
    go_enter Tryz.func90, Tryz.ntmps90
    go_wp2_with (refine HP.out.mono ?_; rintro e w1 ⟨rfl, n, rfl⟩)
    go_ret2
    exact ⟨rfl, HB.out.dN _, gb_dN (gb_refl _ _) _⟩
  · rw [if_neg c1]
    have hkl : k < l.length := hpos (by omega)
    clear hpos
    by_cases c2 : 127 < p
    · rw [if_pos c2]
      go_enter Tryz.func90, Tryz.ntmps90
      go_wp2_with fail
      refine HP.out.mono ?_
      rintro e w1 ⟨rfl, n, rfl⟩
      go_wp2_with fail
      refine (HQ.out _ (HB.out.dN _) hkl).mono ?_
      rintro e w2 ⟨rfl, hb, hg⟩
      have G2 := Lib.hid (gb_trans (gb_dN (gb_refl w (some g)) n) hg)
      have H2 := Lib.hid hb
      clear hb hg
      go_wp2
      go_ret2
      exact ⟨rfl, H2.out, G2.out⟩
    · rw [if_neg c2]
      by_cases c3 : p = 92
      · rw [if_pos c3]
        subst c3
        go_enter Tryz.func90, Tryz.ntmps90
        go_wp2_with fail
        refine HP.out.mono ?_
        rintro e w1 ⟨rfl, n, rfl⟩
        go_wp2_with fail
        refine (HE.out _ ((HB.out.dN _).put (k + 1) (by omega) (by omega))).mono ?_
        rintro e w2 ⟨rfl, hb, hg⟩
        have G2 := Lib.hid (gb_trans (gb_set (gb_dN (gb_refl w (some g)) n) 1 _) hg)
        have H2 := Lib.hid hb
        clear hb hg
        go_wp2
        go_ret2
        exact ⟨rfl, H2.out, G2.out⟩
      · rw [if_neg c3]
        have t3 : (p == 92) = false := by simp [c3]
        clear c3
        go_enter Tryz.func90, Tryz.ntmps90
        go_wp2_with (refine HP.out.mono ?_; rintro e w1 ⟨rfl, n, rfl⟩)
        go_ret2
        exact ⟨rfl, (HB.out.dN _).put (k + 1) (by omega) (by omega), gb_set (gb_dN (gb_refl _ _) _) _ _⟩
end Go.Proofs.YtpgiljibicigeaaGreatDoor

/- Encode, Explode, Clean of the program. -/
namespace Go.Proofs.YtpgiljibicigeaaGreatDoor
open Go.RowKit UM

def ResE (p : Nat) (w : World) (r : Ending) (w' : World) : Prop := r = .returned (.tuple #[.string (tx (enc p)), .int .i64 0]) ∧ Below w.heap.size w w'
set_option maxHeartbeats 4000000 in
theorem Encode_pt (p : Nat) (w : World) (hp : Pt p) (ht : Sh w) : Calls Tryz.prog 91 #[.int .i64 p] w (ResE p w) := by
  have hI := fun W => isPoint_any (p : Int) W
  rw [isPt_nat, decide_eq_true hp] at hI
  have hP := put_any p w.heap.size none 0 [] w hp.1 ht (Nat.le_refl _) (by simp) (Own.nilNone _ _ _ _)
  rw [List.nil_append] at hP
  have hlo := enc_lo hp.1
  have HI := Lib.hid hI; have HP := Lib.hid hP; have HL := Lib.hid hlo
  clear hI hP hlo
  go_enter Tryz.func91, Tryz.ntmps91
  go_wp2_with fail
  refine (HI.out _).mono ?_
  rintro r w1 ⟨rfl, rfl⟩
  go_wp2_with fail
  refine HP.out.mono ?_
  rintro r w2 ⟨a, c, rfl, ho, hb, _⟩
  have hcv := conv_tx (P := Tryz.prog) w2 52 9 5 _ c a (enc p) (enc p).length Tryz.underlying52 Tryz.underlying5 Tryz.underlying9 ho HL.out rfl
  have HB := Lib.hid hb
  clear hb ho
  go_wp2
  go_ret2
  exact ⟨rfl, HB.out⟩
end Go.Proofs.YtpgiljibicigeaaGreatDoor

/- Clean and Slice of the program. -/
namespace Go.Proofs.YtpgiljibicigeaaGreatDoor
open Go.RowKit UM

end Go.Proofs.YtpgiljibicigeaaGreatDoor

/- quote: bytes laid behind others; putPoint, letterOf, putUnit walked. -/
namespace Go.Proofs.YtpgiljibicigeaaGreatDoor
open Go.RowKit UM QM

theorem keepsOwn {w w' : World} {B : Nat} {e : TypeId} {k : IntKind} {ao : Option Addr} {cap : Nat} {l : List Nat} {n : Nat} (h : Own w B e k ao cap l) (hg : w.grownBy w' (Value.slice ao n cap).ownBlock) : KeepsOthers w w' :=
  KeepsOthers.of_grownBy hg fun j o hj ho => by
    rcases h.2 with ⟨h', _⟩ | ⟨g, cap', cur, h', hB, hgo, hr⟩
    · simp only [Value.slice.injEq] at h'
      rw [h'.1] at hj; cases hj
    · simp only [Value.slice.injEq] at h'
      rw [h'.1] at hj
      have : g = j := by simpa [Value.ownBlock] using hj
      subst this
      rw [hgo] at ho
      cases ho; rfl
section
variable {P : Program} {ops : Array Oper} {rest : List Oper} {o : Oper} {a : Act} {Q : Exit → Act → World → Prop}
/-- 'append(l, y, z, ..)' of numbers typed there -/
theorem wp_apps (w0 : World) (hg : o.guard = none) (s x : Operand) (t : TypeId)
    (hop : o.op = Op.call { callee := Callee.builtin Builtin.append, args := #[s, x], argTypes := #[t, t] })
    (B : Nat) (e : TypeId) (k : IntKind) (bytes : Nat) (hu : P.underlying t = some (.slice e)) (hinfo : (P.info? e).map (fun i => (i.zero, i.size, i.bytes)) = some (some (.int k 0), 1, bytes))
    (ao : Option Addr) (cap n : Nat) (l : List Nat) (hn : n = l.length) (hs : a.eval s = .slice ao n cap) (ys : List Nat) (hy0 : 0 < ys.length) (arr : Array Value) (harr : arr.toList = cs k ys) (e' : TypeId)
    (m : Nat) (hm : m = ys.length) (hx : a.eval x = .slice (some ⟨w0.heap.size, 0, none⟩) m m)
    (hown : Own w0 B e k ao cap l) (hbytes : (l.length + ys.length) * bytes ≤ 140737488355328) (hlen : l.length + ys.length ≤ maxLen) (hB : B ≤ w0.heap.size)
    (hK : ∀ ao' cap' w', Own w' B e k ao' cap' (l ++ ys) → Below B w0 w' → KeepsOthers w0 w' → wpList P ops Q rest (a.put o.dst (.slice ao' (n + m) cap')) w') :
    wpList P ops Q (o :: rest) a (w0.alloc (.cells arr e')) := by
  subst hn hm
  obtain ⟨i, hi, hz0, hz1, hz2⟩ := info_parts hinfo
  have hown1 : Own (w0.alloc (.cells arr e')) B e k ao cap l := hown.alloc _
  have hown' : (w0.alloc (.cells arr e')).ownsRow B e 1 (.slice ao l.length cap) l.length (cs k l) := hown1
  have hal : arr.size = ys.length := by rw [← Array.length_toList, harr, cs_length]
  refine wpList_append_own _ hg s x t hop B e i (.int k 0) 1 bytes hu hi hz0 hz1 hz2 rfl (by decide) _ _ _ hs hown' ⟨w0.heap.size, 0, none⟩ ys.length ys.length (cs k ys) hx (by rw [cs_length, Nat.mul_one]) ?_ (cs_oneCell k ys) hlen hbytes (by simp; omega) ?_
  · intro j u hj
    rw [← harr] at hj
    rw [Lib.add_plain, Nat.zero_add]
    simpa using hj
  · intro v' w' ho hgr hnil
    have hb : Below B w0 w' := ((Below.refl B w0).alloc hB _).grown hgr (by simp; omega) (fun j hj => (hown'.lt j hj).1)
    have hsh : ∃ ao' cap', v' = .slice ao' (l.length + ys.length) cap' := by
      rcases ho.2 with ⟨h1, h2⟩ | ⟨g, cap', cur, h1, _⟩
      · omega
      · exact ⟨_, _, h1⟩
    obtain ⟨ao', cap', rfl⟩ := hsh
    refine hK ao' cap' w' ?_ hb ((KeepsOthers.alloc w0 _).trans (keepsOwn hown1 hgr))
    unfold Own
    rw [cs_append]; simpa using ho
/-- 'append(l, text...)' -/
theorem wp_text (w0 : World) (hg : o.guard = none) (s x : Operand) (t u : TypeId)
    (hop : o.op = Op.call { callee := Callee.builtin Builtin.append, args := #[s, x], argTypes := #[t, u] })
    (B : Nat) (e : TypeId) (ht : P.underlying t = some (.slice e)) (hu : P.underlying u = some .string) (hinfo : (P.info? e).map (fun i => (i.zero, i.size, i.bytes)) = some (some (.int .u8 0), 1, 1))
    (ao : Option Addr) (cap n : Nat) (l : List Nat) (hn : n = l.length) (hs : a.eval s = .slice ao n cap) (m : List Nat) (hm : ∀ y ∈ m, y < 256) (hm0 : 0 < m.length) (hx : a.eval x = .string (tx m))
    (hown : Own w0 B e .u8 ao cap l) (hlen : l.length + m.length ≤ 140737488355328) (hB : B ≤ w0.heap.size)
    (hK : ∀ ao' cap' w', Own w' B e .u8 ao' cap' (l ++ m) → Below B w0 w' → KeepsOthers w0 w' → wpList P ops Q rest (a.put o.dst (.slice ao' (l ++ m).length cap')) w') :
    wpList P ops Q (o :: rest) a w0 := by
  subst hn
  obtain ⟨i, hi, hz0, hz1, hz2⟩ := info_parts hinfo
  have hown' : w0.ownsRow B e 1 (.slice ao l.length cap) l.length (cs .u8 l) := hown
  refine Lib.wpList_append_own_string w0 hg s x t u hop B e i ht hu hi hz0 hz1 hz2 _ _ _ hs hown' (tx m) hx (by rw [tx_size]; unfold maxLen; omega) (by rw [tx_size]; omega) hB ?_
  intro v' w' ho hgr _
  rw [tx_size] at ho
  have hb : Below B w0 w' := (Below.refl B w0).grown hgr hB (fun j hj => (hown'.lt j hj).1)
  have hsh : ∃ ao' cap', v' = .slice ao' (l.length + m.length) cap' := by
    rcases ho.2 with ⟨h1, h2⟩ | ⟨g, cap', cur, h1, _⟩
    · omega
    · exact ⟨_, _, h1⟩
  obtain ⟨ao', cap', rfl⟩ := hsh
  have e1 : Lib.strCells (tx m) = cs .u8 m := by
    unfold Lib.strCells cs
    rw [tx_list, List.map_map]
    refine List.map_congr_left fun y hy => ?_
    show Value.int .u8 ((UInt8.ofNat y).toNat : Int) = _
    rw [UInt8.toNat_ofNat', Nat.mod_eq_of_lt (hm y hy)]
  have hL : l.length + m.length = (l ++ m).length := by simp
  rw [hL]
  refine hK ao' cap' w' ?_ hb (keepsOwn hown hgr)
  unfold Own
  rw [cs_append, ← e1, ← hL]; exact ho
end
def ResApp (B : Nat) (l : List Nat) (w : World) (r : Ending) (w' : World) : Prop := ∃ a c, r = .returned (.slice a l.length c) ∧ Own w' B 5 .u8 a c l ∧ Below B w w' ∧ KeepsOthers w w'
theorem KeepsOthers.ofBelow {w w' : World} (h : Below w.heap.size w w') : KeepsOthers w w' := ⟨h.size, fun k _ hk _ => (h.block k (Array.getElem?_eq_some_iff.1 hk).1).trans hk⟩
set_option maxRecDepth 100000 in
set_option maxHeartbeats 2000000 in
theorem putPoint_any (p : Nat) (B : Nat) (ao : Option Addr) (cap : Nat) (l : List Nat) (w : World) (hp : Pt p) (ht : Sh w) (hB : B ≤ w.heap.size) (hl : l.length + (enc p).length ≤ 140737488355328) (hown : Own w B 5 .u8 ao cap l) :
    Calls Tryz.prog 82 #[.slice ao l.length cap, .int .i64 p] w (ResApp B (l ++ enc p) w) := by
  have HO := Lib.hid hown
  have HT := Lib.hid ht
  have hlen : l.length + 1 ≤ maxLen := by unfold maxLen; omega
  have HL := Lib.hid hlen
  clear hown ht hlen
  by_cases c : p ≤ 127
  · have e1 : enc p = [p] := enc1 (by omega)
    rw [e1] at hl ⊢
    rw [List.length_singleton] at hl
    clear e1
    go_enter Tryz.func82, Tryz.ntmps82
    go_wp2_with (refine wp_apps (k := .u8) w rfl _ _ 52 rfl B 5 1 Tryz.underlying52 infoU8 ao cap _ l rfl rfl [p] (by simp) _ rfl _ _ rfl rfl HO.out (by simp; omega) HL.out hB ?_; intro ao' cap' w' h1 h2 h3; have H1 := Lib.hid h1; have H2 := Lib.hid h2; have H3 := Lib.hid h3; clear h1 h2 h3)
    go_ret
    exact ⟨ao', cap', by simp, H1.out, H2.out, H3.out⟩
  · have HE := Lib.hid (Encode_pt p w hp HT.out)
    unfold ResE at HE
    have hm := Lib.hid (enc_lo hp.1)
    have hel : 0 < (enc p).length ∧ (enc p).length ≤ 4 := by rw [enc_len]; exact ⟨by have := (en_pos p).1; omega, (en_pos p).2⟩
    have HEL := Lib.hid hel
    have hc : ¬ (p : Int) ≤ 127 := by omega
    clear hel
    have HL2 := Lib.hid hl
    clear hl
    generalize enc p = m at *
    go_enter Tryz.func82, Tryz.ntmps82
    go_wp2_with fail
    refine HE.out.mono ?_
    rintro r w1 ⟨rfl, hb⟩
    have K1 := Lib.hid (KeepsOthers.ofBelow hb)
    have HO1 := Lib.hid (HO.out.below hb)
    have B1 := Lib.hid (hb.mono hB)
    have hB1 : B ≤ w1.heap.size := Nat.le_trans hB hb.size
    clear hb
    go_wp2_with (refine wp_text w1 rfl _ _ 52 9 rfl B 5 Tryz.underlying52 Tryz.underlying9 infoU8 ao cap _ l rfl rfl m hm.out HEL.out.1 rfl HO1.out HL2.out hB1 ?_; intro ao' cap' w' h1 h2 h3; have H1 := Lib.hid h1; have H2 := Lib.hid h2; have H3 := Lib.hid h3; clear h1 h2 h3)
    go_ret
    exact ⟨ao', cap', by simp, H1.out, B1.out.trans H2.out, K1.out.trans H3.out⟩
end Go.Proofs.YtpgiljibicigeaaGreatDoor

/- 'append([]byte(text), more...)', more a slice that came in: one way, the arms hidden. -/
namespace Go.Proofs.YtpgiljibicigeaaGreatDoor
open Go.RowKit UM QM

section
variable {P : Program} {ops : Array Oper} {rest : List Oper} {o : Oper} {a : Act} {Q : Exit → Act → World → Prop}
end
end Go.Proofs.YtpgiljibicigeaaGreatDoor
