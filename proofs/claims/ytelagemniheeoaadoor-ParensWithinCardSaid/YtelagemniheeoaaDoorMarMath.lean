/- A whole text's masks, word by word: plain mathematics, and the contracts of Scan in its words. -/
import Derived.Test.YtelagemniheeoaaDoorBitF
namespace Go.Proofs.YtelagemniheeoaaDoor
open Go.RowKit BM

/-- a word of masks -/
structure MS where
  q : BitVec 64
  n : BitVec 64
  o : BitVec 64
  c : BitVec 64
  k : BitVec 64
  m : BitVec 64
  s : BitVec 64
def MS.cells (x : MS) : List Value := [.int .u64 (val x.q), .int .u64 (val x.n), .int .u64 (val x.o), .int .u64 (val x.c), .int .u64 (val x.k), .int .u64 (val x.m), .int .u64 (val x.s)]
def MS.v (x : MS) : Value := .agg x.cells.toArray
/-- the masks of at most 64 bytes, with what stands ahead -/
def ms (l : List Nat) (o i : Bool) : MS := ⟨mk (isW l o i 113) l.length, mk (inW l o i) l.length, mk (isW l o i 111) l.length, mk (isW l o i 99) l.length, mk (isW l o i 58) l.length, mk (isW l o i 44) l.length, mk (isW l o i 32) l.length⟩
/-- the bytes of a word -/
def ch (l : List Nat) (k : Nat) : List Nat := (l.drop (64 * k)).take 64
def wd (l : List Nat) (k : Nat) : MS := ms (ch l k) (stO l false (64 * k)) (stI l false false (64 * k))
def nw (n : Nat) : Nat := (n + 63) / 64
def wds (l : List Nat) (n : Nat) : List MS := (List.range n).map (wd l)
theorem wds_length (l : List Nat) (n : Nat) : (wds l n).length = n := by simp [wds]
theorem wds_succ (l : List Nat) (n : Nat) : wds l (n + 1) = wds l n ++ [wd l n] := by simp [wds, List.range_succ]
theorem wds_get (l : List Nat) {n k : Nat} (h : k < n) : (wds l n)[k]? = some (wd l k) := by simp [wds, h]

theorem byte_take {l : List Nat} {n j : Nat} (h : j < n) : byte (l.take n) j = byte l j := by simp [byte, h]
theorem byte_drop (l : List Nat) (n j : Nat) : byte (l.drop n) j = byte l (n + j) := by simp [byte]
theorem byte_app {l m : List Nat} {j : Nat} (h : j < l.length) : byte (l ++ m) j = byte l j := by simp [byte, List.getElem?_append_left h]
theorem stO_cong {l m : List Nat} {o : Bool} : ∀ {n : Nat}, (∀ j, j < n → byte l j = byte m j) → stO l o n = stO m o n
  | 0, _ => rfl
  | n + 1, h => by rw [stO, stO, h n (by omega), stO_cong (n := n) (fun j hj => h j (by omega))]
theorem stI_cong {l m : List Nat} {o i : Bool} : ∀ {n : Nat}, (∀ j, j < n → byte l j = byte m j) → stI l o i n = stI m o i n
  | 0, _ => rfl
  | n + 1, h => by rw [stI, stI, h n (by omega), stO_cong (n := n) (fun j hj => h j (by omega)), stI_cong (n := n) (fun j hj => h j (by omega))]
theorem stO_drop (l : List Nat) (o : Bool) (n : Nat) : ∀ j, stO (l.drop n) (stO l o n) j = stO l o (n + j)
  | 0 => rfl
  | j + 1 => by rw [stO, stO_drop l o n j, byte_drop]; rfl
theorem stI_drop (l : List Nat) (o i : Bool) (n : Nat) : ∀ j, stI (l.drop n) (stO l o n) (stI l o i n) j = stI l o i (n + j)
  | 0 => rfl
  | j + 1 => by rw [stI, stI_drop l o i n j, stO_drop, byte_drop]; rfl
theorem wh_drop (l : List Nat) (o i : Bool) (n j : Nat) : wh (l.drop n) (stO l o n) (stI l o i n) j = wh l o i (n + j) := by
  unfold wh; rw [byte_drop, stO_drop, stI_drop]
theorem ch_length (l : List Nat) (k : Nat) : (ch l k).length = min 64 (l.length - 64 * k) := by simp [ch]
theorem ch_byte (l : List Nat) (k : Nat) {j : Nat} (h : j < 64) : byte (ch l k) j = byte l (64 * k + j) := by
  unfold ch; rw [byte_take h, byte_drop]
theorem ch_stO (l : List Nat) (k : Nat) {j : Nat} (h : j ≤ 64) : stO (ch l k) (stO l false (64 * k)) j = stO l false (64 * k + j) := by
  rw [← stO_drop]
  exact stO_cong fun i hi => by unfold ch; exact byte_take (by omega)
theorem ch_stI (l : List Nat) (k : Nat) {j : Nat} (h : j ≤ 64) : stI (ch l k) (stO l false (64 * k)) (stI l false false (64 * k)) j = stI l false false (64 * k + j) := by
  rw [← stI_drop]
  exact stI_cong fun i hi => by unfold ch; exact byte_take (by omega)
/-- what stands at a place of the text -/
def cl (l : List Nat) (p : Nat) : Nat := wh l false false p
/-- whether it is a string's -/
def inn (l : List Nat) (p : Nat) : Bool := stI l false false (p + 1)
theorem ch_wh (l : List Nat) (k : Nat) {j : Nat} (h : j < 64) : wh (ch l k) (stO l false (64 * k)) (stI l false false (64 * k)) j = cl l (64 * k + j) := by
  unfold wh cl wh; rw [ch_byte l k h, ch_stO l k (by omega), ch_stI l k (by omega)]
theorem mkW (l : List Nat) (k : Nat) (c : Nat) {j : Nat} (h : j < 64) : (mk (isW (ch l k) (stO l false (64 * k)) (stI l false false (64 * k)) (c : Int)) (ch l k).length).getLsbD j = (decide (64 * k + j < l.length) && decide (cl l (64 * k + j) = c)) := by
  rw [mk_bit, ch_length]
  unfold isW
  rw [ch_wh l k h]
  have e1 : decide (j < min 64 (l.length - 64 * k)) = decide (64 * k + j < l.length) := by
    rw [Bool.eq_iff_iff, decide_eq_true_iff, decide_eq_true_iff]; omega
  rw [e1]
  have e2 : ((((cl l (64 * k + j) : Nat) : Int) == (c : Int))) = decide (cl l (64 * k + j) = c) := by
    rw [Bool.eq_iff_iff, beq_iff_eq, decide_eq_true_iff]; omega
  rw [e2]; simp [h]
theorem wd_q (l : List Nat) (k : Nat) {j : Nat} (h : j < 64) : (wd l k).q.getLsbD j = (decide (64 * k + j < l.length) && decide (cl l (64 * k + j) = 113)) := mkW l k 113 h
theorem wd_o (l : List Nat) (k : Nat) {j : Nat} (h : j < 64) : (wd l k).o.getLsbD j = (decide (64 * k + j < l.length) && decide (cl l (64 * k + j) = 111)) := mkW l k 111 h
theorem wd_c (l : List Nat) (k : Nat) {j : Nat} (h : j < 64) : (wd l k).c.getLsbD j = (decide (64 * k + j < l.length) && decide (cl l (64 * k + j) = 99)) := mkW l k 99 h
theorem wd_k (l : List Nat) (k : Nat) {j : Nat} (h : j < 64) : (wd l k).k.getLsbD j = (decide (64 * k + j < l.length) && decide (cl l (64 * k + j) = 58)) := mkW l k 58 h
theorem wd_m (l : List Nat) (k : Nat) {j : Nat} (h : j < 64) : (wd l k).m.getLsbD j = (decide (64 * k + j < l.length) && decide (cl l (64 * k + j) = 44)) := mkW l k 44 h
theorem wd_s (l : List Nat) (k : Nat) {j : Nat} (h : j < 64) : (wd l k).s.getLsbD j = (decide (64 * k + j < l.length) && decide (cl l (64 * k + j) = 32)) := mkW l k 32 h
theorem wd_n (l : List Nat) (k : Nat) {j : Nat} (h : j < 64) : (wd l k).n.getLsbD j = (decide (64 * k + j < l.length) && inn l (64 * k + j)) := by
  show (mk (inW (ch l k) (stO l false (64 * k)) (stI l false false (64 * k))) (ch l k).length).getLsbD j = _
  rw [mk_bit, ch_length]
  unfold inW
  rw [ch_stI l k (by omega)]
  have e1 : decide (j < min 64 (l.length - 64 * k)) = decide (64 * k + j < l.length) := by
    rw [Bool.eq_iff_iff, decide_eq_true_iff, decide_eq_true_iff]; omega
  rw [e1]; simp [h, inn, Nat.add_assoc]
/-- a word that is full stays as it is, whatever stands behind -/
theorem wd_app {l m : List Nat} {k : Nat} (h : 64 * (k + 1) ≤ l.length) : wd (l ++ m) k = wd l k := by
  have e : ch (l ++ m) k = ch l k := by
    unfold ch
    rw [List.drop_append_of_le_length (by omega), List.take_append_of_le_length (by simp; omega)]
  unfold wd
  rw [e, stO_cong (m := l) (fun j hj => byte_app (by omega)), stI_cong (m := l) (fun j hj => byte_app (by omega))]
theorem wds_app {l m : List Nat} {n : Nat} (h : 64 * n ≤ l.length) : wds (l ++ m) n = wds l n := by
  unfold wds
  refine List.map_congr_left fun k hk => ?_
  rw [List.mem_range] at hk
  exact wd_app (by omega)
/-- what Scan answers, in the words of a text -/
def ResM (x : MS) (o i : Bool) (w : World) (e : Ending) (w' : World) : Prop := e = .returned (.tuple #[x.v, .agg #[.bool o, .bool i]]) ∧ Below w.heap.size w w'
end Go.Proofs.YtelagemniheeoaaDoor
