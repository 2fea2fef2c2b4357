/- Contracts at the level of numbers: quotients. -/
import Derived.Test.YteipkibaoikilaaDoorLimbW
import Derived.Test.YteipkibaoikilaaDoorLimbZd
import Derived.Test.YteipkibaoikilaaDoorLimbQ
namespace Go.Proofs.YteipkibaoikilaaDoor
open Go.RowKit LM

theorem nDivZero {w : World} {a b : Option Addr} {n m v K L : Nat} (ca cb : Nat) (ha : Nm w a n v K) (hb : Nm w b m 0 L) : Calls Tryd.prog 30 #[.slice a n ca, .slice b m cb] w fun e w' => e = .returned (.tuple #[.slice none 0 0, .slice none 0 0, .int .i64 4]) ∧ Below w.heap.size w w' := by
  obtain ⟨l, h1, h2, h3, h4, h5, h6, h7, h8⟩ := ha
  obtain ⟨l', g1, g2, g3, g4, g5, g6, g7, g8⟩ := hb
  subst h1 h4 g1
  exact DivMod_zero a b ca cb l l' w (by omega) (by omega) h2 g2 h3 g3 g4
theorem nDiv {w : World} {a b : Option Addr} {n m v u K L : Nat} (ca cb : Nat) (ha : Nm w a n v K) (hb : Nm w b m u L) (hu : 0 < u) (hKL : K + L ≤ 100000) : Calls Tryd.prog 30 #[.slice a n ca, .slice b m cb] w (ResS2 (v / u) (v % u) (K + L) w) := by
  obtain ⟨l, h1, h2, h3, h4, h5, h6, h7, h8⟩ := ha
  obtain ⟨l', g1, g2, g3, g4, g5, g6, g7, g8⟩ := hb
  subst h1 h4 g1 g4
  have hq : vl 1000000000 l / vl 1000000000 l' < 1000000000 ^ (K + L) := Nat.lt_of_le_of_lt (Nat.div_le_self _ _) (Nat.lt_of_lt_of_le h6 (Nat.pow_le_pow_right (by omega) (by omega)))
  have hr : vl 1000000000 l % vl 1000000000 l' < 1000000000 ^ (K + L) := Nat.lt_of_lt_of_le (Nat.lt_trans (Nat.mod_lt _ hu) g6) (Nat.pow_le_pow_right (by omega) (by omega))
  obtain ⟨k, hk⟩ := dg_head hu
  rcases Nat.lt_or_ge (dg 1000000000 (vl 1000000000 l)).length (dg 1000000000 (vl 1000000000 l')).length with h | h
  · exact (DivMod_short a b ca cb l l' w (by omega) (by omega) h2 g2 h3 g3 h).mono fun e w' ⟨a1, c1, a2, c2, he, o1, o2, hb⟩ => ⟨a1, c1, _, a2, c2, _, he, Pn.ofOwn o1 hq (by omega) hKL, Pn.ofOwn o2 hr (by omega) hKL, hb⟩
  · exact (DivMod_any 18446744073709551615 Div64_full a b ca cb l l' w (by omega) (by omega) h2 g2 h3 g3 k hk h (.inl (by omega))).mono fun e w' ⟨a1, c1, a2, c2, he, o1, o2, hb⟩ => ⟨a1, c1, _, a2, c2, _, he, Pn.ofOwn o1 hq (by omega) hKL, Pn.ofOwn o2 hr (by omega) hKL, hb⟩
def ResD2 (v u M : Nat) (w : World) (e : Ending) (w' : World) : Prop := ∃ a1 c1 n1 a2 c2 n2, e = .returned (.tuple #[.slice a1 n1 c1, .slice a2 n2 c2]) ∧ Dn w' a1 n1 v M ∧ Dn w' a2 n2 u M ∧ Below w.heap.size w w'
theorem dDiv {w : World} {a b : Option Addr} {n m v u M L : Nat} (ca cb : Nat) (ha : Dn w a n v M) (hb : Dn w b m u L) (hu : 0 < u) : Calls Tryd.prog 31 #[.slice a n ca, .slice b m cb] w (ResD2 (v / u) (v % u) M w) := by
  have l1 := ha.len; have l2 := hb.len
  obtain ⟨h1, h2, h3, h4, h5⟩ := ha
  obtain ⟨g1, g2, g3, g4, g5⟩ := hb
  subst h2 g2
  exact (RDiv_any a b ca cb v u w (by omega) (by omega) hu h1 g1).mono fun e w' ⟨a1, c1, a2, c2, he, r1, r2, hb⟩ => ⟨a1, c1, _, a2, c2, _, he, ⟨r1, rfl, Nat.lt_of_le_of_lt (Nat.div_le_self _ _) h3, h4, h5⟩, ⟨r2, rfl, Nat.lt_of_le_of_lt (Nat.mod_le _ _) h3, h4, h5⟩, hb⟩
end Go.Proofs.YteipkibaoikilaaDoor
