/- The document's size, Is, Bytes, Encode. -/
import Derived.Test.YtgjpjgfejjgheaaDoorUtfF
namespace Go.Proofs.YtgjpjgfejjgheaaDoor
open Go.RowKit UM

theorem Is_any (p : Int) (w : World) : Calls Tryd.prog 37 #[.int .i64 p] w fun e w' => e = .returned (.bool (isPt p)) ∧ w = w' := by
  by_cases h1 : 0 ≤ p
  · by_cases h2 : p ≤ 1114111
    · by_cases h3 : p < 55296
      · rw [show isPt p = true from decide_eq_true (by omega)]
        go_enter Tryd.func37, Tryd.ntmps37
        go_wp2
        go_ret
        exact ⟨rfl, rfl⟩
      · by_cases h4 : 57343 < p
        · rw [show isPt p = true from decide_eq_true (by omega)]
          go_enter Tryd.func37, Tryd.ntmps37
          go_wp2
          go_ret
          exact ⟨rfl, rfl⟩
        · rw [show isPt p = false from decide_eq_false (by omega)]
          go_enter Tryd.func37, Tryd.ntmps37
          go_wp2
          go_ret
          exact ⟨rfl, rfl⟩
    · rw [show isPt p = false from decide_eq_false (by omega)]
      go_enter Tryd.func37, Tryd.ntmps37
      go_wp2
      go_ret
      exact ⟨rfl, rfl⟩
  · rw [show isPt p = false from decide_eq_false (by omega)]
    go_enter Tryd.func37, Tryd.ntmps37
    go_wp2
    go_ret
    exact ⟨rfl, rfl⟩

set_option maxRecDepth 20000 in
theorem size_any (c : Nat) (w : World) (hc : c < 256) : Calls Tryd.prog 36 #[.int .u8 c] w fun e w' => e = .returned (.int .i64 (sf c)) ∧ w = w' := by
  by_cases h1 : c < 128
  · rw [show sf c = 1 by unfold sf; rw [if_pos h1]]
    go_enter Tryd.func36, Tryd.ntmps36
    go_wp2
    go_ret
    exact ⟨rfl, rfl⟩
  by_cases h2 : c < 192
  · rw [show sf c = 0 by unfold sf; rw [if_neg h1, if_neg (by omega), if_neg (by omega), if_neg (by omega)]]
    go_enter Tryd.func36, Tryd.ntmps36
    go_wp2
    go_ret
    exact ⟨rfl, rfl⟩
  by_cases h3 : c < 224
  · rw [show sf c = 2 by unfold sf; rw [if_neg h1, if_pos (by omega)]]
    go_enter Tryd.func36, Tryd.ntmps36
    go_wp2
    go_ret
    exact ⟨rfl, rfl⟩
  by_cases h4 : c < 240
  · rw [show sf c = 3 by unfold sf; rw [if_neg h1, if_neg (by omega), if_pos (by omega)]]
    go_enter Tryd.func36, Tryd.ntmps36
    go_wp2
    go_ret
    exact ⟨rfl, rfl⟩
  by_cases h5 : c < 248
  · rw [show sf c = 4 by unfold sf; rw [if_neg h1, if_neg (by omega), if_neg (by omega), if_pos (by omega)]]
    go_enter Tryd.func36, Tryd.ntmps36
    go_wp2
    go_ret
    exact ⟨rfl, rfl⟩
  · rw [show sf c = 0 by unfold sf; rw [if_neg h1, if_neg (by omega), if_neg (by omega), if_neg (by omega)]]
    go_enter Tryd.func36, Tryd.ntmps36
    go_wp2
    go_ret
    exact ⟨rfl, rfl⟩

def ResB (l : List Nat) (w : World) (r : Ending) (w' : World) : Prop := r = .returned (.string (tx l)) ∧ Below w.heap.size w w'
/-- bytes that are written out as a text -/
theorem conv_lit {P : Program} (w : World) (src dst e : TypeId) (V : Array Value) (l : List Nat) (n : Nat) (hs : P.underlying src = some (.slice e)) (he : P.underlying e = some (.int .u8)) (hd : P.underlying dst = some .string)
    (hV : V = (cs .u8 l).toArray) (hlo : ∀ x ∈ l, x < 256) (hn : n = l.length) :
    (convert src dst (.slice (some ⟨w.heap.size, 0, none⟩) n n)).run P (w.alloc (.cells V e)) = .ok (.string (tx l)) (w.alloc (.cells V e)) := by
  subst hn
  have hl : l.length = (l.map UInt8.ofNat).length := by rw [List.length_map]
  rw [hl]
  refine run_convert_bytes_back _ src dst e ⟨w.heap.size, 0, none⟩ _ (l.map UInt8.ofNat) hs he hd (fun j hj => ?_)
  have hj' : j < l.length := by rw [List.length_map] at hj; exact hj
  rw [Lib.add_plain, Nat.zero_add]
  have h4 : l[j] < 256 := hlo _ (List.getElem_mem hj')
  have h5 : (w.alloc (.cells V e)).cell? ⟨w.heap.size, j, none⟩ = V[j]? := by simp
  rw [h5, hV]
  simp [cs, hj', Nat.mod_eq_of_lt h4]
set_option maxRecDepth 20000 in
theorem Bytes_1 (p : Nat) (w : World) (c1 : p < 128) : Calls Tryd.prog 20 #[.int .i64 p] w (ResB (enc p) w) := by
  rw [enc1 c1]
  have hcv := conv_lit (P := Tryd.prog) w 26 9 5 #[.int .u8 (p : Int)] [p] 1 Tryd.underlying26 Tryd.underlying5 Tryd.underlying9 rfl (by simp; omega) rfl
  go_enter Tryd.func20, Tryd.ntmps20
  go_wp2
  go_ret
  exact ⟨rfl, (Below.refl _ _).alloc (Nat.le_refl _) _⟩
set_option maxRecDepth 20000 in
theorem Bytes_2 (p : Nat) (w : World) (c1 : ¬ p < 128) (c2 : p < 2048) : Calls Tryd.prog 20 #[.int .i64 p] w (ResB (enc p) w) := by
  rw [enc2 c1 c2]
  obtain ⟨a, ha⟩ : ∃ a, a = p / 64 := ⟨_, rfl⟩
  obtain ⟨b, hb⟩ : ∃ b, b = p % 64 := ⟨_, rfl⟩
  have h0 : ¬ (p : Int) < 128 := by omega
  have h1 : (p : Int) < 2048 := by omega
  have q1 : (p : Int) / 64 = a := by omega
  have q2 : (p : Int) % 64 = b := by omega
  have l1 : (a : Int) < 32 := by omega
  have l2 : (b : Int) < 64 := by omega
  rw [← ha, ← hb]
  have hcv := conv_lit (P := Tryd.prog) w 26 9 5 #[.int .u8 (192 + (a : Int)), .int .u8 (128 + (b : Int))] [192 + a, 128 + b] 2 Tryd.underlying26 Tryd.underlying5 Tryd.underlying9 (by simp [cs]) (by simp; omega) rfl
  clear ha hb c1 c2
  go_enter Tryd.func20, Tryd.ntmps20
  go_wp2
  go_ret
  exact ⟨rfl, (Below.refl _ _).alloc (Nat.le_refl _) _⟩
set_option maxRecDepth 100000 in
theorem Bytes_3 (p : Nat) (w : World) (c2 : ¬ p < 2048) (c3 : p < 65536) : Calls Tryd.prog 20 #[.int .i64 p] w (ResB (enc p) w) := by
  rw [enc3 c2 c3]
  obtain ⟨a, ha⟩ : ∃ a, a = p / 4096 := ⟨_, rfl⟩
  obtain ⟨b, hb⟩ : ∃ b, b = p / 64 := ⟨_, rfl⟩
  obtain ⟨d, hd⟩ : ∃ d, d = b % 64 := ⟨_, rfl⟩
  obtain ⟨c, hc⟩ : ∃ c, c = p % 64 := ⟨_, rfl⟩
  have h0 : ¬ (p : Int) < 128 := by omega
  have h1 : ¬ (p : Int) < 2048 := by omega
  have h2 : (p : Int) < 65536 := by omega
  have q1 : (p : Int) / 4096 = a := by omega
  have q2 : (p : Int) / 64 = b := by omega
  have q3 : (p : Int) % 64 = c := by omega
  have q4 : (b : Int) % 64 = d := by omega
  have l1 : (a : Int) < 16 := by omega
  have l2 : (b : Int) < 1024 := by omega
  have l3 : (c : Int) < 64 := by omega
  have l4 : (d : Int) < 64 := by omega
  rw [← ha, ← hb, ← hc, ← hd]
  have hcv := conv_lit (P := Tryd.prog) w 26 9 5 #[.int .u8 (224 + (a : Int)), .int .u8 (128 + (d : Int)), .int .u8 (128 + (c : Int))] [224 + a, 128 + d, 128 + c] 3 Tryd.underlying26 Tryd.underlying5 Tryd.underlying9 (by simp [cs]) (by simp; omega) rfl
  clear ha hb hc hd c2 c3
  go_enter Tryd.func20, Tryd.ntmps20
  go_wp2
  go_ret
  exact ⟨rfl, (Below.refl _ _).alloc (Nat.le_refl _) _⟩
set_option maxRecDepth 100000 in
theorem Bytes_4 (p : Nat) (w : World) (hp : p ≤ 1114111) (c3 : ¬ p < 65536) : Calls Tryd.prog 20 #[.int .i64 p] w (ResB (enc p) w) := by
  rw [enc4 c3]
  obtain ⟨a, ha⟩ : ∃ a, a = p / 262144 := ⟨_, rfl⟩
  obtain ⟨b, hb⟩ : ∃ b, b = p / 4096 := ⟨_, rfl⟩
  obtain ⟨d, hd⟩ : ∃ d, d = b % 64 := ⟨_, rfl⟩
  obtain ⟨e, he⟩ : ∃ e, e = p / 64 := ⟨_, rfl⟩
  obtain ⟨f, hf⟩ : ∃ f, f = e % 64 := ⟨_, rfl⟩
  obtain ⟨c, hc⟩ : ∃ c, c = p % 64 := ⟨_, rfl⟩
  have h0 : ¬ (p : Int) < 128 := by omega
  have h1 : ¬ (p : Int) < 2048 := by omega
  have h2 : ¬ (p : Int) < 65536 := by omega
  have q1 : (p : Int) / 262144 = a := by omega
  have q2 : (p : Int) / 4096 = b := by omega
  have q3 : (b : Int) % 64 = d := by omega
  have q4 : (p : Int) / 64 = e := by omega
  have q5 : (e : Int) % 64 = f := by omega
  have q6 : (p : Int) % 64 = c := by omega
  have l1 : (a : Int) < 8 := by omega
  have l2 : (b : Int) < 512 := by omega
  have l3 : (d : Int) < 64 := by omega
  have l4 : (e : Int) < 32768 := by omega
  have l5 : (f : Int) < 64 := by omega
  have l6 : (c : Int) < 64 := by omega
  rw [← ha, ← hb, ← he, ← hc, ← hd, ← hf]
  have hcv := conv_lit (P := Tryd.prog) w 26 9 5 #[.int .u8 (240 + (a : Int)), .int .u8 (128 + (d : Int)), .int .u8 (128 + (f : Int)), .int .u8 (128 + (c : Int))] [240 + a, 128 + d, 128 + f, 128 + c] 4 Tryd.underlying26 Tryd.underlying5 Tryd.underlying9 (by simp [cs]) (by simp; omega) rfl
  clear ha hb hc hd he hf hp c3
  go_enter Tryd.func20, Tryd.ntmps20
  go_wp2
  go_ret
  exact ⟨rfl, (Below.refl _ _).alloc (Nat.le_refl _) _⟩
theorem Bytes_any (p : Nat) (w : World) (hp : p ≤ 1114111) : Calls Tryd.prog 20 #[.int .i64 p] w (ResB (enc p) w) := by
  by_cases c1 : p < 128
  · exact Bytes_1 p w c1
  by_cases c2 : p < 2048
  · exact Bytes_2 p w c1 c2
  by_cases c3 : p < 65536
  · exact Bytes_3 p w c2 c3
  · exact Bytes_4 p w hp c3
end Go.Proofs.YtgjpjgfejjgheaaDoor
