import Derived.Test.YtkaminplfnejhabDoorRows
import Derived.Laws.BitsAllLaws
import Derived.Laws.Bits128
import Derived.WalkKit
import Derived.ProofKit
import Derived.OpenShut
import Derived.WalkLawsBesides
import Derived.WalkSpells
import Derived.Deep.QuietTactic
import Derived.BigQuiet
/-
  What the walks of this seat share: texts as lists of bytes, bytes as cells, endings.
-/
namespace Go.Proofs.YtkaminplfnejhabDoor
open Go.ChangeShapes Go.WideShapes Go.ChangeAt Go.RowKit
set_option linter.unusedVariables false

theorem ret_int {k : IntKind} {a b : Int} (h : a = b) : Ending.returned (.int k a) = .returned (.int k b) := by rw [h]
theorem ret_str {a b : ByteArray} (h : a = b) : Ending.returned (.string a) = .returned (.string b) := by rw [h]
theorem ret_bool {a b : Bool} (h : a = b) : Ending.returned (.bool a) = .returned (.bool b) := by rw [h]

/-- a list of bytes as a text -/
def str (l : List UInt8) : ByteArray := ⟨l.toArray⟩
theorem str_size (l : List UInt8) : (str l).size = l.length := by simp [str, ByteArray.size]
theorem str_app (a b : List UInt8) : str a ++ str b = str (a ++ b) := by
  apply ByteArray.ext; rw [ByteArray.data_append]; simp [str]
theorem str_data (d : ByteArray) : str d.data.toList = d := by apply ByteArray.ext; simp [str]
theorem data_str (l : List UInt8) : (str l).data.toList = l := by simp [str]
theorem str_inj {a b : List UInt8} : str a = str b ↔ a = b := by
  constructor
  · intro h; rw [← data_str a, ← data_str b, h]
  · intro h; rw [h]
theorem str_eq_iff {a b : ByteArray} : a = b ↔ a.data.toList = b.data.toList := by
  constructor
  · intro h; rw [h]
  · intro h; rw [← str_data a, ← str_data b, h]
theorem toList_of (s : ByteArray) : s.toList = s.data.toList := ByteArray.toList_eq s
theorem toList_str (l : List UInt8) : (str l).toList = l := by rw [toList_of, data_str]
theorem byte_le (c : UInt8) : (c.toNat : Int) ≤ 255 := by have := c.toNat_lt; omega
theorem ofNat_toNat (n : Nat) (h : n < 256) : ((UInt8.ofNat n).toNat : Int) = (n : Int) := by
  have : (UInt8.ofNat n).toNat = n := by simp; omega
  rw [this]

/-- bytes as cells -/
def bs (l : List UInt8) : List Value := l.map fun c => Value.int .u8 (c.toNat : Int)
theorem bs_length (l : List UInt8) : (bs l).length = l.length := by simp [bs]
theorem bs_snoc (l : List UInt8) (c : UInt8) : bs l ++ [Value.int .u8 (c.toNat : Int)] = bs (l ++ [c]) := by simp [bs]
theorem bs_app (a b : List UInt8) : bs a ++ bs b = bs (a ++ b) := by simp [bs]

theorem info5 : (Tryd.prog.info? 5).map (fun i => (i.zero, i.size, i.bytes)) = some (some (.int .u8 0), 1, 1) := by kernel_rfl

/-- 'string(b)' of a row of one's own -/
theorem own_string {W : World} {base : Nat} {v : Value} {l : List UInt8} {n : Nat} (h : W.ownsRow base 5 1 v n (bs l)) : Sem.run Tryd.prog (convert 107 9 v) W = .ok (.string (str l)) W := by
  obtain ⟨h1, h2⟩ := h
  rw [bs_length, Nat.mul_one] at h1
  subst h1
  rcases h2 with ⟨rfl, h0⟩ | ⟨g, cap, cur, rfl, hb, hg, hn, hc, hs, ht⟩
  · have hl : l = [] := List.eq_nil_of_length_eq_zero h0
    subst hl
    exact run_convert_bytes_nil W 107 5 Tryd.underlying107 Tryd.underlying5 0 0 9 Tryd.underlying9
  · refine run_convert_bytes_back W 107 9 5 ⟨g, 0, none⟩ cap l Tryd.underlying107 Tryd.underlying5 Tryd.underlying9 (fun j hj => ?_)
    have hown : W.ownsRow base 5 1 (.slice (some ⟨g, 0, none⟩) l.length cap) l.length (bs l) := ⟨by rw [bs_length, Nat.mul_one], Or.inr ⟨g, cap, cur, rfl, hb, hg, hn, hc, hs, ht⟩⟩
    exact hown.cells rfl j _ (by simp [bs, List.getElem?_eq_getElem hj])

/-- 'string([]byte{..})' right behind the literal -/
theorem lit_string (W : World) (xs : List Int) : Sem.run Tryd.prog (convert 107 9 (.slice (some ⟨W.heap.size, 0, none⟩) xs.length xs.length)) (W.alloc (.cells (xs.map (Value.int .u8)).toArray 5)) = .ok (.string (str (xs.map fun n => UInt8.ofNat n.toNat))) (W.alloc (.cells (xs.map (Value.int .u8)).toArray 5)) := by
  have h := run_convert_bytes_arg (P := Tryd.prog) (W.alloc (.cells (xs.map (Value.int .u8)).toArray 5)) 107 5 Tryd.underlying107 Tryd.underlying5 W.heap.size 0 xs.length xs.length xs rfl (fun i hi => by
    rw [World.cell?_alloc_at _ _ _ _ rfl]
    simp [List.getD, List.getElem?_eq_getElem hi]) 9 Tryd.underlying9
  exact h

/-- behind an append to a row of one's own -/
theorem grown_own {w wr w1 : World} {o : Obj} {e : TypeId} {v : Value} {n : Nat} {xs : List Value} {size : Nat} (hb : Below w.heap.size w wr) (hown : wr.ownsRow w.heap.size e size v n xs) (hg : (wr.alloc o).grownBy w1 v.ownBlock) : Below w.heap.size w w1 :=
  (hb.alloc hb.size o).grown hg (by have := hb.size; simp; omega) (fun k hk => (hown.lt k hk).1)

/-- a row of bytes at the head of a block, which may be written -/
def Row8 (w : World) (g : Nat) (l : List UInt8) : Prop := ∀ (i : Nat) (c : UInt8), l[i]? = some c → w.cell? ⟨g, i, none⟩ = some (.int .u8 (c.toNat : Int)) ∧ w.frozen? ⟨g, i, none⟩ = false
/-- '[]byte(s)' -/
theorem bytes_of (w : World) (s : ByteArray) : ∃ (cap : Nat) (w1 : World), Sem.run Tryd.prog (convert 9 107 (.string s)) w = .ok (.slice (some ⟨w.heap.size, 0, none⟩) s.size cap) w1 ∧ Row8 w1 w.heap.size s.data.toList ∧ Below w.heap.size w w1 ∧ s.size ≤ cap := by
  refine ⟨_, _, run_bytes_of_string w 9 107 5 s Tryd.underlying9 Tryd.underlying107 Tryd.underlying5, ?_, ?_, grownCap_ge _ _ _ _⟩
  · intro i c hc
    have hi : i < s.data.toList.length := by
      rcases Nat.lt_or_ge i s.data.toList.length with h | h
      · exact h
      · rw [List.getElem?_eq_none h] at hc; cases hc
    have hi' : i < s.data.size := by simpa using hi
    have hz : ∀ cap, i < (bytesRow s cap).size := fun cap => by unfold bytesRow; rw [Array.size_append, Array.size_map]; omega
    constructor
    · rw [show w.heap.size = w.drew.heap.size from rfl, World.cell?_alloc_mark]
      unfold bytesRow
      rw [Array.getElem?_append_left (by simpa using hi')]
      have : s.data[i]? = some c := by rw [← Array.getElem?_toList]; exact hc
      simp [this]
    · have hb : (w.drew.alloc (.cells (bytesRow s (grownCap w s.size 0 5)) 5 ((bytesRow s (grownCap w s.size 0 5)).size, (bytesRow s (grownCap w s.size 0 5)).size + 1))).heap[w.heap.size]? = some (.cells (bytesRow s (grownCap w s.size 0 5)) 5 ((bytesRow s (grownCap w s.size 0 5)).size, (bytesRow s (grownCap w s.size 0 5)).size + 1)) := by
        show (w.heap.push _)[w.heap.size]? = _
        simp
      unfold World.frozen?
      simp only [hb]
      have := hz (grownCap w s.size 0 5)
      simp; omega
  · exact (Below.refl _ _).drew.alloc (Nat.le_refl _) _
/-- 'string(b)' of such a row -/
theorem row_string {w : World} {g : Nat} {l : List UInt8} (h : Row8 w g l) (cap : Nat) : Sem.run Tryd.prog (convert 107 9 (.slice (some ⟨g, 0, none⟩) l.length cap)) w = .ok (.string (str l)) w := by
  refine run_convert_bytes_back w 107 9 5 ⟨g, 0, none⟩ cap l Tryd.underlying107 Tryd.underlying5 Tryd.underlying9 (fun j hj => ?_)
  have := (h j l[j] (by simp [hj])).1
  rw [show (⟨g, 0, none⟩ : Addr).add j = ⟨g, j, none⟩ from by unfold Addr.add; split <;> simp_all]
  exact this
end Go.Proofs.YtkaminplfnejhabDoor

/-
  A1, in plain words of lists and numbers: what Varint answers, what Unvarint reads. Nothing of the program.
-/
namespace Go.Proofs.YtkaminplfnejhabDoor

/-- 128 to the k-th -/
def pw (k : Nat) : Nat := 128 ^ k
theorem pw_zero : pw 0 = 1 := rfl
theorem pw_succ (k : Nat) : pw (k + 1) = pw k * 128 := Nat.pow_succ 128 k
theorem pw_pos (k : Nat) : 1 ≤ pw k := Nat.pow_pos (by decide)
theorem pw_le (k : Nat) (h : k ≤ 8) : pw k ≤ 72057594037927936 := by
  have : pw k ≤ pw 8 := Nat.pow_le_pow_right (by decide) h
  exact Nat.le_trans this (by decide)

/-- Varint's bytes -/
def vb (n : Nat) : List UInt8 := if n < 128 then [UInt8.ofNat n] else UInt8.ofNat (n % 128 + 128) :: vb (n / 128)
  termination_by n
  decreasing_by omega

theorem vb_small (n : Nat) (h : n < 128) : vb n = [UInt8.ofNat n] := by rw [vb, if_pos h]
theorem vb_great (n : Nat) (h : 128 ≤ n) : vb n = UInt8.ofNat (n % 128 + 128) :: vb (n / 128) := by rw [vb, if_neg (by omega)]

theorem vb_length (k n : Nat) (h : n < pw (k + 1)) : (vb n).length ≤ k + 1 := by
  induction k generalizing n with
  | zero => rw [vb_small n (by rw [pw_succ, pw_zero] at h; omega)]; simp
  | succ k ih =>
    by_cases hn : n < 128
    · rw [vb_small n hn]; simp
    · rw [vb_great n (by omega)]
      have := ih (n / 128) (by rw [pw_succ] at h; omega)
      simp only [List.length_cons]; omega
theorem vb_length9 (n : Nat) (h : n < 9223372036854775808) : (vb n).length ≤ 9 :=
  vb_length 8 n (by show n < 128 ^ 9; omega)

/-- Unvarint's reading: k bytes are behind it, which have made acc -/
def uv (k acc : Nat) : List UInt8 → Option (Nat × Nat)
  | [] => none
  | c :: t => if 9 ≤ k then none else if c.toNat < 128 then (if c.toNat = 0 ∧ 0 < k then none else some (acc + pw k * (c.toNat % 128), k + 1)) else uv (k + 1) (acc + pw k * (c.toNat % 128)) t

theorem uv_nil (k acc : Nat) : uv k acc [] = none := rfl
theorem uv_nine (acc : Nat) (l : List UInt8) : uv 9 acc l = none := by cases l <;> simp [uv]
theorem uv_more (k acc : Nat) (c : UInt8) (t : List UInt8) (hk : k < 9) (h : 128 ≤ c.toNat) : uv k acc (c :: t) = uv (k + 1) (acc + pw k * (c.toNat % 128)) t := by
  rw [uv, if_neg (by omega), if_neg (by omega)]
theorem uv_last (k acc : Nat) (c : UInt8) (t : List UInt8) (hk : k < 9) (h : c.toNat < 128) (hz : ¬ (c.toNat = 0 ∧ 0 < k)) : uv k acc (c :: t) = some (acc + pw k * (c.toNat % 128), k + 1) := by
  rw [uv, if_neg (by omega), if_pos h, if_neg hz]
theorem uv_needless (k acc : Nat) (c : UInt8) (t : List UInt8) (hk : k < 9) (h : c.toNat = 0) (hz : 0 < k) : uv k acc (c :: t) = none := by
  rw [uv, if_neg (by omega), if_pos (by omega), if_pos ⟨h, hz⟩]

theorem uv_vb (j k n acc : Nat) (rest : List UInt8) (hj : j + k = 8) (h : n < pw (j + 1)) (hn : k = 0 ∨ 0 < n) :
    uv k acc (vb n ++ rest) = some (acc + pw k * n, k + (vb n).length) := by
  induction j generalizing k n acc with
  | zero =>
    rw [pw_succ, pw_zero] at h
    have hb : (UInt8.ofNat n).toNat = n := by simp; omega
    rw [vb_small n (by omega)]
    show uv k acc (UInt8.ofNat n :: rest) = _
    rw [uv_last k acc _ rest (by omega) (by omega) (by omega), hb, Nat.mod_eq_of_lt (by omega)]
    simp
  | succ j ih =>
    by_cases hs : n < 128
    · have hb : (UInt8.ofNat n).toNat = n := by simp; omega
      rw [vb_small n hs]
      show uv k acc (UInt8.ofNat n :: rest) = _
      rw [uv_last k acc _ rest (by omega) (by omega) (by omega), hb, Nat.mod_eq_of_lt (by omega)]
      simp
    · have hb : (UInt8.ofNat (n % 128 + 128)).toNat = n % 128 + 128 := by simp; omega
      rw [vb_great n (by omega), List.cons_append, uv_more k acc _ _ (by omega) (by omega), hb]
      rw [ih (k + 1) (n / 128) _ (by omega) (by rw [pw_succ] at h; omega) (by omega)]
      rw [List.length_cons, pw_succ]
      have e : (n % 128 + 128) % 128 = n % 128 := by omega
      have e2 : acc + pw k * ((n % 128 + 128) % 128) + pw k * 128 * (n / 128) = acc + pw k * n := by
        rw [e, Nat.mul_assoc, Nat.add_assoc, ← Nat.mul_add]; congr 2; omega
      rw [e2]
      congr 2; omega

theorem uv_back (n : Nat) (h : n < 9223372036854775808) (rest : List UInt8) : uv 0 0 (vb n ++ rest) = some (n, (vb n).length) := by
  rw [uv_vb 8 0 n 0 rest rfl (by show n < 128 ^ 9; omega) (Or.inl rfl)]
  simp [pw_zero]

theorem pw_two (k : Nat) : pw k = 2 ^ (7 * k) := by unfold pw; rw [show (128 : Nat) = 2 ^ 7 from rfl, Nat.pow_mul]
theorem wraps63 (n : Int) (h0 : 0 ≤ n) (h1 : n < 2 ^ 63) : IntKind.i64.wrap n = n := by rw [IntKind.wrap_i64]; omega
/-- seven bits more -/
theorem or_group (k acc : Nat) (c : UInt8) (hk : k ≤ 8) (h : acc < pw k) :
    bits .or .i64 (acc : Int) (((c.toNat % 128 : Nat) : Int) * 2 ^ (7 * k)) = ((acc + pw k * (c.toNat % 128) : Nat) : Int) := by
  have hp := pw_le k hk
  have b : pw k * (c.toNat % 128) ≤ pw k * 127 := Nat.mul_le_mul_left _ (by omega)
  have e : ((c.toNat % 128 : Nat) : Int) * 2 ^ (7 * k) = ((pw k * (c.toNat % 128) : Nat) : Int) := by
    rw [pw_two]; push_cast; rw [Int.mul_comm]
  rw [e, (bits_nat .i64 63 (by decide) wraps63 acc (pw k * (c.toNat % 128)) (by omega) (by omega)).2]
  rw [Nat.or_comm, nat_join (7 * k) _ acc (by rw [← pw_two]; exact Nat.mul_mod_right _ _) (by rw [← pw_two]; exact h), Nat.add_comm]

/-- the bytes of a string from a place on -/
def from_ (s : ByteArray) (k : Nat) : List UInt8 := s.data.toList.drop k
theorem from_end (s : ByteArray) (k : Nat) (h : s.size ≤ k) : from_ s k = [] := by
  unfold from_; exact List.drop_of_length_le (by simpa using h)
theorem from_cons (s : ByteArray) (k : Nat) (h : k < s.size) : from_ s k = s[k] :: from_ s (k + 1) := by
  unfold from_; rw [List.drop_eq_getElem_cons (by simpa using h)]; rfl
theorem from_app (a b : ByteArray) : from_ (a ++ b) a.size = b.data.toList := by
  unfold from_; rw [ByteArray.data_append, Array.toList_append, List.drop_left' (by simp)]

end Go.Proofs.YtkaminplfnejhabDoor
