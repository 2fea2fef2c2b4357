/- Texts of lists; Encode, Explode, Clean, Implode of the program. -/
import Derived.Test.YtjjacffacmpopaaDoorUtfD
import Derived.Lib.OthersKept
import Derived.Lib.ItoaMem
import Derived.Laws.RangeAny
import Derived.Laws.IdiomStrings
import Derived.Laws.BytesArg
namespace Go.Proofs.YtjjacffacmpopaaDoor
open Go.RowKit UM

/-- the text of bytes -/
def tx (l : List Nat) : ByteArray := ⟨(l.map UInt8.ofNat).toArray⟩
theorem tx_list (l : List Nat) : (tx l).data.toList = l.map UInt8.ofNat := rfl
theorem bl_tx {l : List Nat} (h : ∀ x ∈ l, x < 256) : bl (tx l) = l := by
  unfold bl
  rw [tx_list, List.map_map]
  conv => rhs; rw [← List.map_id l]
  refine List.map_congr_left fun x hx => ?_
  show (UInt8.ofNat x).toNat = x
  rw [UInt8.toNat_ofNat']
  exact Nat.mod_eq_of_lt (h x hx)
theorem tx_bl (s : ByteArray) : tx (bl s) = s := bl_inj (bl_tx (bl_lo s))
theorem tx_size (l : List Nat) : (tx l).size = l.length := by
  show ((l.map UInt8.ofNat).toArray).size = _
  rw [List.size_toArray, List.length_map]
theorem tx_nil : tx [] = ⟨#[]⟩ := rfl
/-- a row of the call's own as a text -/
theorem conv_tx {P : Program} (w : World) (src dst e : TypeId) (B cap : Nat) (ao : Option Addr) (l : List Nat) (n : Nat) (hs : P.underlying src = some (.slice e)) (he : P.underlying e = some (.int .u8)) (hd : P.underlying dst = some .string)
    (hown : Own w B e .u8 ao cap l) (hlo : ∀ x ∈ l, x < 256) (hn : n = l.length) :
    (convert src dst (.slice ao n cap)).run P w = .ok (.string (tx l)) w := by
  subst hn
  rcases hown.shape with ⟨h1, h2, h3⟩ | ⟨g, h1, _⟩
  · subst h1 h2 h3
    rw [List.length_nil, run_convert_bytes_string w src dst e none 0 0 hs he hd]
    rfl
  · subst h1
    have hl : l.length = (l.map UInt8.ofNat).length := by rw [List.length_map]
    rw [hl]
    refine run_convert_bytes_back w src dst e ⟨g, 0, none⟩ cap (l.map UInt8.ofNat) hs he hd (fun j hj => ?_)
    have hj' : j < l.length := by rw [List.length_map] at hj; exact hj
    rw [Lib.add_plain, Nat.zero_add, hown.cell j hj']
    have h4 : l[j] < 256 := hlo _ (List.getElem_mem hj')
    simp [hj', Nat.mod_eq_of_lt h4]
theorem iterAt_apart {w : World} {K p p2 : Nat} {s : ByteArray} (_ : w.heap[K]? = some (.stringIter s p)) : w.grownBy (w.iterAt K s p2) (some K) :=
  ⟨rfl, rfl, rfl, by rw [Lib.iterAt_size]; exact Nat.le_refl _, fun i _ hne => Lib.iterAt_other w K i s p2 (by intro e; exact hne (by rw [e]))⟩
/-- what stands while a text is gone through: the iterator, a row of the call's own, the rest as it was -/
structure UI (s : ByteArray) (B : Nat) (w0 : World) (K : Nat) (e : TypeId) (k : IntKind) (wr : World) (pos : Nat) (ao : Option Addr) (cap : Nat) (L : List Nat) : Prop where
  it : wr.heap[K]? = some (.stringIter s pos)
  own : Own wr B e k ao cap L
  bw : Below B w0 wr
  kb : B ≤ K
  hB : B ≤ w0.heap.size
theorem UI.iter {s : ByteArray} {B : Nat} {w0 : World} {K : Nat} {e : TypeId} {k : IntKind} {wr : World} {pos : Nat} {ao : Option Addr} {cap : Nat} {L : List Nat} (h : UI s B w0 K e k wr pos ao cap L) (p : Nat) : UI s B w0 K e k (wr.iterAt K s p) p ao cap L :=
  ⟨Lib.iterAt_heap wr _ s pos p h.it, h.own.gb (iterAt_apart h.it) (h.own.noIter h.it), Lib.below_iterAt h.bw h.kb s p, h.kb, h.hB⟩
theorem UI.step {s : ByteArray} {B : Nat} {w0 : World} {K : Nat} {e : TypeId} {k : IntKind} {wr w2 : World} {pos : Nat} {ao ao2 : Option Addr} {cap cap2 : Nat} {L L2 : List Nat} (h : UI s B w0 K e k wr pos ao cap L) (ho : Own w2 B e k ao2 cap2 L2) (hb : Below B wr w2) (hk : KI wr w2) : UI s B w0 K e k w2 pos ao2 cap2 L2 :=
  ⟨hk _ _ _ h.it, ho, h.bw.trans hb, h.kb, h.hB⟩
theorem UI.below {s : ByteArray} {B : Nat} {w0 : World} {K : Nat} {e : TypeId} {k : IntKind} {wr w2 : World} {pos : Nat} {ao : Option Addr} {cap : Nat} {L : List Nat} (h : UI s B w0 K e k wr pos ao cap L) (hb : Below wr.heap.size wr w2) : UI s B w0 K e k w2 pos ao cap L :=
  h.step (h.own.below hb) (hb.mono (Nat.le_trans h.hB h.bw.size)) (KI.ofBelow hb)
theorem it_less {w w' : World} {k pos p2 : Nat} {s : ByteArray} (h : w.heap[k]? = some (.stringIter s pos)) (h' : w'.heap[k]? = some (.stringIter s p2)) (h1 : pos < s.size) (h2 : pos < p2) : s.size - w'.iterPos k < s.size - w.iterPos k := by
  simp only [World.iterPos, h, h']; omega
/-- a text's next code point -/
theorem next_pt (s : ByteArray) (pos : Nat) (h : pos < s.size) : ∃ c wd : Nat, Hid (Utf8.decode s pos = (c, wd)) ∧ Hid (dcd ((bl s).drop pos) = (c, wd, (dcd ((bl s).drop pos)).2.2)) ∧ c ≤ 1114111 ∧ 1 ≤ wd ∧ pos + wd ≤ s.size ∧ Hid (Pt c) ∧ Hid (xp ((bl s).drop pos) = c :: xp ((bl s).drop (pos + wd))) := by
  have hne : (bl s).drop pos ≠ [] := by
    intro e
    have := congrArg List.length e
    simp only [List.length_drop, bl_len, List.length_nil] at this; omega
  have hw := dcd_wd hne
  have hp := dcd_pt ((bl s).drop pos)
  have hx := xp_cons hne
  rw [List.drop_drop] at hx
  rw [List.length_drop, bl_len] at hw
  exact ⟨(dcd ((bl s).drop pos)).1, (dcd ((bl s).drop pos)).2.1, Lib.hid (decode_dcd s pos h), Lib.hid rfl, hp.1, hw.1, by omega, Lib.hid hp, Lib.hid hx⟩
end Go.Proofs.YtjjacffacmpopaaDoor

/- Encode, Explode, Clean of the program. -/
namespace Go.Proofs.YtjjacffacmpopaaDoor
open Go.RowKit UM

def ResE (p : Nat) (w : World) (r : Ending) (w' : World) : Prop := r = .returned (.tuple #[.string (tx (enc p)), .int .i64 0]) ∧ Below w.heap.size w w'
set_option maxHeartbeats 4000000 in
theorem Encode_pt (p : Nat) (w : World) (hp : Pt p) (ht : Sh w) : Calls Tryd.prog 66 #[.int .i64 p] w (ResE p w) := by
  have hI := fun W => isPoint_any (p : Int) W
  rw [isPt_nat, decide_eq_true hp] at hI
  have hP := put_any p w.heap.size none 0 [] w hp.1 ht (Nat.le_refl _) (by simp) (Own.nilNone _ _ _ _)
  rw [List.nil_append] at hP
  have hlo := enc_lo hp.1
  have HI := Lib.hid hI; have HP := Lib.hid hP; have HL := Lib.hid hlo
  clear hI hP hlo
  go_enter Tryd.func66, Tryd.ntmps66
  go_wp2_with fail
  refine (HI.out _).mono ?_
  rintro r w1 ⟨rfl, rfl⟩
  go_wp2_with fail
  refine HP.out.mono ?_
  rintro r w2 ⟨a, c, rfl, ho, hb, _⟩
  have hcv := conv_tx (P := Tryd.prog) w2 38 9 5 _ c a (enc p) (enc p).length Tryd.underlying38 Tryd.underlying5 Tryd.underlying9 ho HL.out rfl
  have HB := Lib.hid hb
  clear hb ho
  go_wp2
  go_ret2
  exact ⟨rfl, HB.out⟩
theorem Encode_no (p : Int) (w : World) (hp : isPt p = false) : Calls Tryd.prog 66 #[.int .i64 p] w fun r w' => r = .returned (.tuple #[.string ⟨#[]⟩, .int .i64 1]) ∧ Below w.heap.size w w' := by
  have hI := fun W => isPoint_any p W
  rw [hp] at hI
  have HI := Lib.hid hI
  clear hI hp
  go_enter Tryd.func66, Tryd.ntmps66
  go_wp2_with fail
  refine (HI.out _).mono ?_
  rintro r w1 ⟨rfl, rfl⟩
  go_wp2
  go_ret2
  exact ⟨rfl, Below.refl _ _⟩

theorem infoInt : (Tryd.prog.info? 3).map (fun i => (i.zero, i.size, i.bytes)) = some (some (.int .i64 0), 1, 8) := by kernel_rfl
def ResX (l : List Nat) (w : World) (r : Ending) (w' : World) : Prop := ∃ a c, r = .returned (.slice a l.length c) ∧ Own w' w.heap.size 3 .i64 a c l ∧ Below w.heap.size w w'
end Go.Proofs.YtjjacffacmpopaaDoor

/- Clean and Slice of the program. -/
namespace Go.Proofs.YtjjacffacmpopaaDoor
open Go.RowKit UM

def ResT (l : List Nat) (w : World) (r : Ending) (w' : World) : Prop := r = .returned (.string (tx l)) ∧ Below w.heap.size w w'
theorem slc_snoc {ps : List Nat} {c : Nat} {f : Int} (h : f ≤ (ps.length : Int)) : (ps ++ [c]).drop f.toNat = ps.drop f.toNat ++ [c] := by
  rw [List.drop_append_of_le_length (by omega)]
theorem slc_skip {ps : List Nat} {c : Nat} {f : Int} (h : (ps.length : Int) < f) : (ps ++ [c]).drop f.toNat = [] ∧ ps.drop f.toNat = [] :=
  ⟨List.drop_of_length_le (by simp; omega), List.drop_of_length_le (by omega)⟩
end Go.Proofs.YtjjacffacmpopaaDoor
