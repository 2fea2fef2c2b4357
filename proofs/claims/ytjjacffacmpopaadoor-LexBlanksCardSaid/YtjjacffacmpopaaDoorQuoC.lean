/- quote's reader: cutOff, point, piece walked. -/
import Derived.Test.YtjjacffacmpopaaDoorQuoB
import Derived.Test.YtjjacffacmpopaaDoorUtfEs
namespace Go.Proofs.YtjjacffacmpopaaDoor
open Go.RowKit UM QM

theorem bl_app (s : ByteArray) (m : List Nat) (hm : ∀ x ∈ m, x < 256) : bl (s ++ tx m) = bl s ++ m := by
  have h : (s ++ tx m).data.toList = s.data.toList ++ (tx m).data.toList := by simp [ByteArray.data_append]
  unfold bl
  rw [h, List.map_append]
  congr 1
  exact bl_tx hm
theorem tx128 : tx [128, 128, 128] = ⟨#[128, 128, 128]⟩ := rfl
theorem tx191 : tx [191, 191, 191] = ⟨#[191, 191, 191]⟩ := rfl
set_option maxRecDepth 100000 in
set_option maxHeartbeats 1000000 in
theorem cutOff_any (s : ByteArray) (w : World) (hs : s.size ≤ 100) (ht : Sh w) :
    Calls Tryd.prog 71 #[.string s] w fun e w' => e = .returned (.bool (cutB (bl s))) ∧ ∃ n, w' = w.drewN n := by
  have e1 : (s ++ ⟨#[128, 128, 128]⟩ : ByteArray).size = s.size + 3 := by rw [ByteArray.size_append]; rfl
  have e2 : (s ++ ⟨#[191, 191, 191]⟩ : ByteArray).size = s.size + 3 := by rw [ByteArray.size_append]; rfl
  have H1 := Lib.hid (fun W r => Decode_any (s ++ ⟨#[128, 128, 128]⟩) W (by rw [e1]; omega) r)
  have H2 := Lib.hid (fun W r => Decode_any (s ++ ⟨#[191, 191, 191]⟩) W (by rw [e2]; omega) r)
  unfold ResDec at H1 H2
  have b1 : bl (s ++ ⟨#[128, 128, 128]⟩) = bl s ++ [128, 128, 128] := bl_app s [128, 128, 128] (by decide)
  have b2 : bl (s ++ ⟨#[191, 191, 191]⟩) = bl s ++ [191, 191, 191] := bl_app s [191, 191, 191] (by decide)
  rw [b1] at H1
  rw [b2] at H2
  have HT := Lib.hid ht
  unfold cutB
  generalize dcd (bl s ++ [128, 128, 128]) = D1 at *
  generalize dcd (bl s ++ [191, 191, 191]) = D2 at *
  obtain ⟨p1, n1, q1⟩ := D1
  obtain ⟨p2, n2, q2⟩ := D2
  clear e1 e2 b1 b2 ht
  cases q1
  all_goals
    go_enter Tryd.func71, Tryd.ntmps71
    go_wp2_with fail
    refine (H1.out _ HT.out).mono ?_
    rintro e w1 ⟨rfl, m1, rfl⟩
    go_wp2_with fail
    refine (H2.out _ (HT.out.dN _)).mono ?_
    rintro e w2 ⟨rfl, m2, rfl⟩
    go_wp2
    go_ret
    exact ⟨by simp, _, rfl⟩
theorem conv_rd {P : Program} (w : World) (src dst e : TypeId) (b off cap : Nat) (l : List Nat) (n : Nat) (hs : P.underlying src = some (.slice e)) (he : P.underlying e = some (.int .u8)) (hd : P.underlying dst = some .string)
    (hr : ∀ j, j < l.length → w.cell? ⟨b, off + j, none⟩ = some (.int .u8 ((l[j]?.getD 0 : Nat) : Int))) (hlo : ∀ x ∈ l, x < 256) (hn : n = l.length) :
    (convert src dst (.slice (some ⟨b, off, none⟩) n cap)).run P w = .ok (.string (tx l)) w := by
  subst hn
  have hl : l.length = (l.map UInt8.ofNat).length := by rw [List.length_map]
  rw [hl]
  refine run_convert_bytes_back w src dst e ⟨b, off, none⟩ cap (l.map UInt8.ofNat) hs he hd (fun j hj => ?_)
  have hj' : j < l.length := by rw [List.length_map] at hj; exact hj
  rw [Lib.add_plain, hr j hj']
  have h4 : l[j] < 256 := hlo _ (List.getElem_mem hj')
  simp [hj', Nat.mod_eq_of_lt h4]
set_option maxRecDepth 100000 in
set_option maxHeartbeats 2000000 in
theorem point_any (g : Nat) (a : Option Addr) (cap : Nat) (l : List Nat) (k : Nat) (w : World) (h : RB w g a cap l k 0) (hk : k < l.length) :
    Calls Tryd.prog 68 #[.pointer (some ⟨g, 0, none⟩)] w (ResP g a cap l (pointF l k) w) := by
  have HB := Lib.hid h
  obtain ⟨h0, h1, h2, hf, hr, ha, _, hl, hlo, hcap, hsh, hne⟩ := h
  obtain ⟨b, off, ea, hc0⟩ := hr k hk
  subst ea
  have hm : ∃ m : List Nat, m = (l.drop k).take 4 := ⟨_, rfl⟩
  obtain ⟨m, hm⟩ := hm
  have hml : m.length = min 4 (l.length - k) := by rw [hm]; simp
  have hmlo : ∀ x ∈ m, x < 256 := fun x hx => hlo x (List.mem_of_mem_drop (List.mem_of_mem_take (by rw [← hm]; exact hx)))
  have hcv : ∀ (n : Nat) (cp q : Nat), q = m.length → (convert 38 9 (.slice (some ⟨b, off + k, none⟩) q cp)).run Tryd.prog (w.drewN n) = .ok (.string (tx m)) (w.drewN n) := fun n cp q hq =>
    conv_rd _ _ _ 5 b (off + k) cp m q Tryd.underlying38 Tryd.underlying5 Tryd.underlying9 (fun j hj => by
      have hj2 : k + j < l.length := by omega
      obtain ⟨b', off', e', hc'⟩ := hr (k + j) hj2
      cases e'
      show w.cell? ⟨b, off + k + j, none⟩ = _
      rw [Nat.add_assoc, hc', hm]
      congr 3
      rw [List.getElem?_take, if_pos (by omega), List.getElem?_drop]) hmlo hq
  have hbm : bl (tx m) = m := bl_tx hmlo
  have HD := Lib.hid (fun W r => Decode_any (tx m) W (by rw [tx_size]; omega) r)
  have HC := Lib.hid (fun W r => cutOff_any (tx m) W (by rw [tx_size]; omega) r)
  unfold ResDec at HD
  rw [hbm] at HD HC
  have HS := Lib.hid hsh
  have hn : (dcd m).2.2 = true → (dcd m).2.1 ≤ m.length := fun h => (dcd_wd (dcd_ne h)).2
  unfold pointF
  rw [← hm]
  clear hbm
  generalize dcd m = DD at *
  obtain ⟨p, n, q⟩ := DD
  simp only at hn ⊢
  have hf0 := hf
  clear hf0
  by_cases h4 : k + 4 ≤ l.length
  · have h5 : (k : Int) + 4 ≤ (l.length : Int) := by omega
    have hc4 := fun n cp => hcv n cp 4 (by omega)
    have hn4 : q = true → n ≤ l.length - k := fun h => by have := hn h; omega
    clear hn
    clear hcv hm hr hsh hlo h2 hne ha hmlo hc0
    cases q
    · by_cases hcb : cutB m = true
      · rw [if_neg (by simp), if_pos hcb]
        rw [hcb] at HC
        clear hcb
        go_enter Tryd.func68, Tryd.ntmps68
        go_wp2
        go_quiet (fail)
        go_wp2_with fail
        refine (HD.out _ (HS.out.dN _)).mono ?_
        rintro e w2 ⟨rfl, m2, rfl⟩
        go_wp2_with fail
        refine (HC.out _ (HS.out.dN _)).mono ?_
        rintro e w3 ⟨rfl, m3, rfl⟩
        go_wp2
        go_ret2
        exact ⟨rfl, (HB.out.dN _).put l.length (Nat.le_refl _) rfl, gb_set (gb_dN (gb_refl _ _) _) _ _⟩
      · have hcf : cutB m = false := by simpa using hcb
        rw [if_neg (by simp), if_neg hcb]
        rw [hcf] at HC
        clear hcb hcf
        go_enter Tryd.func68, Tryd.ntmps68
        go_wp2
        go_quiet (fail)
        go_wp2_with fail
        refine (HD.out _ (HS.out.dN _)).mono ?_
        rintro e w2 ⟨rfl, m2, rfl⟩
        go_wp2_with fail
        refine (HC.out _ (HS.out.dN _)).mono ?_
        rintro e w3 ⟨rfl, m3, rfl⟩
        go_wp2
        go_ret2
        exact ⟨rfl, HB.out.dN _, gb_dN (gb_refl _ _) _⟩
    · rw [if_pos rfl]
      have hn5 := hn4 rfl
      clear hn4
      go_enter Tryd.func68, Tryd.ntmps68
      go_wp2
      go_quiet (fail)
      go_wp2_with fail
      refine (HD.out _ (HS.out.dN _)).mono ?_
      rintro e w2 ⟨rfl, m2, rfl⟩
      go_wp2
      go_ret2
      exact ⟨rfl, (HB.out.dN _).put (k + n) (by omega) (by omega), gb_set (gb_dN (gb_refl _ _) _) _ _⟩
  · have h5 : ¬ (k : Int) + 4 ≤ (l.length : Int) := by omega
    have hc4 := fun n cp => hcv n cp (l.length - k) (by omega)
    have hn4 : q = true → n ≤ l.length - k := fun h => by have := hn h; omega
    clear hn
    clear hcv hm hr hsh hlo h2 hne ha hmlo hc0
    cases q
    · by_cases hcb : cutB m = true
      · rw [if_neg (by simp), if_pos hcb]
        rw [hcb] at HC
        clear hcb
        go_enter Tryd.func68, Tryd.ntmps68
        go_wp2
        go_quiet (fail)
        go_wp2_with fail
        refine (HD.out _ (HS.out.dN _)).mono ?_
        rintro e w2 ⟨rfl, m2, rfl⟩
        go_wp2_with fail
        refine (HC.out _ (HS.out.dN _)).mono ?_
        rintro e w3 ⟨rfl, m3, rfl⟩
        go_wp2
        go_ret2
        exact ⟨rfl, (HB.out.dN _).put l.length (Nat.le_refl _) rfl, gb_set (gb_dN (gb_refl _ _) _) _ _⟩
      · have hcf : cutB m = false := by simpa using hcb
        rw [if_neg (by simp), if_neg hcb]
        rw [hcf] at HC
        clear hcb hcf
        go_enter Tryd.func68, Tryd.ntmps68
        go_wp2
        go_quiet (fail)
        go_wp2_with fail
        refine (HD.out _ (HS.out.dN _)).mono ?_
        rintro e w2 ⟨rfl, m2, rfl⟩
        go_wp2_with fail
        refine (HC.out _ (HS.out.dN _)).mono ?_
        rintro e w3 ⟨rfl, m3, rfl⟩
        go_wp2
        go_ret2
        exact ⟨rfl, HB.out.dN _, gb_dN (gb_refl _ _) _⟩
    · rw [if_pos rfl]
      have hn5 := hn4 rfl
      clear hn4
      go_enter Tryd.func68, Tryd.ntmps68
      go_wp2
      go_quiet (fail)
      go_wp2_with fail
      refine (HD.out _ (HS.out.dN _)).mono ?_
      rintro e w2 ⟨rfl, m2, rfl⟩
      go_wp2
      go_ret2
      exact ⟨rfl, (HB.out.dN _).put (k + n) (by omega) (by omega), gb_set (gb_dN (gb_refl _ _) _) _ _⟩
set_option maxRecDepth 100000 in
set_option maxHeartbeats 2000000 in
theorem piece_any (g : Nat) (a : Option Addr) (cap : Nat) (l : List Nat) (k : Nat) (w : World) (h : RB w g a cap l k 0) :
    Calls Tryd.prog 65 #[.pointer (some ⟨g, 0, none⟩)] w (ResP g a cap l (pieceF l k) w) := by
  have HP := Lib.hid (peek_any g a cap l k 0 w h)
  have HB := Lib.hid h
  obtain ⟨hk, hl, hlo⟩ := h.facts
  have hpos := pk_pos (l := l) (k := k)
  have bd := pk_bd hlo k
  obtain ⟨h0, h1, h2, hfz, _⟩ := h
  have HE := Lib.hid (fun W r => escaped_any g a cap l (k + 1) W r)
  have HQ := Lib.hid (fun W r hk => point_any g a cap l k W r hk)
  unfold ResP at HE HQ
  unfold pieceF
  generalize escF l (k + 1) = E at *
  generalize pointF l k = Q at *
  obtain ⟨x1, x2, x3⟩ := E
  obtain ⟨y1, y2, y3⟩ := Q
  generalize pk l k = p at *
  clear h0 h2 hlo
  by_cases c1 : p < 32
  · rw [if_pos c1]
    clear hpos
    go_enter Tryd.func65, Tryd.ntmps65
    go_wp2_with (refine HP.out.mono ?_; rintro e w1 ⟨rfl, n, rfl⟩)
    go_ret2
    exact ⟨rfl, HB.out.dN _, gb_dN (gb_refl _ _) _⟩
  · rw [if_neg c1]
    have hkl : k < l.length := hpos (by omega)
    clear hpos
    by_cases c2 : 127 < p
    · rw [if_pos c2]
      go_enter Tryd.func65, Tryd.ntmps65
      go_wp2_with fail
      refine HP.out.mono ?_
      rintro e w1 ⟨rfl, n, rfl⟩
      go_wp2_with fail
      refine (HQ.out _ (HB.out.dN _) hkl).mono ?_
      rintro e w2 ⟨rfl, hb, hg⟩
      have G2 := Lib.hid (gb_trans (gb_dN (gb_refl w (some g)) n) hg)
      have H2 := Lib.hid hb
      clear hb hg
      go_wp2
      go_ret2
      exact ⟨rfl, H2.out, G2.out⟩
    · rw [if_neg c2]
      by_cases c3 : p = 92
      · rw [if_pos c3]
        subst c3
        go_enter Tryd.func65, Tryd.ntmps65
        go_wp2_with fail
        refine HP.out.mono ?_
        rintro e w1 ⟨rfl, n, rfl⟩
        go_wp2_with fail
        refine (HE.out _ ((HB.out.dN _).put (k + 1) (by omega) (by omega))).mono ?_
        rintro e w2 ⟨rfl, hb, hg⟩
        have G2 := Lib.hid (gb_trans (gb_set (gb_dN (gb_refl w (some g)) n) 1 _) hg)
        have H2 := Lib.hid hb
        clear hb hg
        go_wp2
        go_ret2
        exact ⟨rfl, H2.out, G2.out⟩
      · rw [if_neg c3]
        have t3 : (p == 92) = false := by simp [c3]
        clear c3
        go_enter Tryd.func65, Tryd.ntmps65
        go_wp2_with (refine HP.out.mono ?_; rintro e w1 ⟨rfl, n, rfl⟩)
        go_ret2
        exact ⟨rfl, (HB.out.dN _).put (k + 1) (by omega) (by omega), gb_set (gb_dN (gb_refl _ _) _) _ _⟩
end Go.Proofs.YtjjacffacmpopaaDoor
