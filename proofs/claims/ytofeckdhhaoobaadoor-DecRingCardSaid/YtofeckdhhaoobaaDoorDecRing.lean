/- Walk of the law DecRing. -/
import Derived.Test.YtofeckdhhaoobaaDoorDecRga
import Derived.Test.YtofeckdhhaoobaaDoorDecRgb
import Derived.Test.YtofeckdhhaoobaaDoorDecRgd
namespace Go.Proofs.YtofeckdhhaoobaaDoor
open Go.RowKit LM

theorem ring2_walk {s1 s2 s3 : Bool} {a1 a2 a3 : Option Addr} {n1 n2 n3 ca1 ca2 ca3 : Nat} {e1 e2 e3 : Int} (w : World) (htab : Tab w) (ha : IsRow w a1 n1 ca1) (_ : (Lit.int .i64 e1).wf = true) (hb : IsRow w a2 n2 ca2) (_ : (Lit.int .i64 e2).wf = true) (hc : IsRow w a3 n3 ca3) (_ : (Lit.int .i64 e3).wf = true) :
    Calls Tryd.prog 10 #[.agg #[.bool s1, .slice a1 n1 ca1, .int .i64 e1], .agg #[.bool s2, .slice a2 n2 ca2, .int .i64 e2], .agg #[.bool s3, .slice a3 n3 ca3, .int .i64 e3]] w fun r w' => r = .returned (.bool true) ∧ Below w.heap.size w w' := by
  obtain ⟨l1, rfl, lo1, rd1, hm1⟩ := ha
  obtain ⟨l2, rfl, lo2, rd2, hm2⟩ := hb
  obtain ⟨l3, rfl, lo3, rd3, hm3⟩ := hc
  unfold maxLen at hm1 hm2 hm3
  by_cases h1 : (addA (normA l1.length s1 (vl 1000000000 l1) e1) (normA l2.length s2 (vl 1000000000 l2) e2)).err = 0
  · by_cases h2 : (addV (addA (normA l1.length s1 (vl 1000000000 l1) e1) (normA l2.length s2 (vl 1000000000 l2) e2)).p (normA l2.length (!s2) (vl 1000000000 l2) e2).p).err = 0
    · exact ring2_a s1 s2 s3 a1 a2 a3 ca1 ca2 ca3 l1 l2 l3 e1 e2 e3 w (by omega) (by omega) (by omega) lo1 lo2 lo3 rd1 rd2 rd3 htab h1 h2
    · exact ring2_d s1 s2 s3 a1 a2 a3 ca1 ca2 ca3 l1 l2 l3 e1 e2 e3 w (by omega) (by omega) (by omega) lo1 lo2 lo3 rd1 rd2 rd3 htab h1 h2
  · exact ring2_b s1 s2 s3 a1 a2 a3 ca1 ca2 ca3 l1 l2 l3 e1 e2 e3 w (by omega) (by omega) (by omega) lo1 lo2 lo3 rd1 rd2 rd3 htab h1
end Go.Proofs.YtofeckdhhaoobaaDoor
