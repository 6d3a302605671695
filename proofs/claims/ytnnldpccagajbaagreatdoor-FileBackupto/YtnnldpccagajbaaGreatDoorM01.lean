import Derived.Test.YtnnldpccagajbaaGreatDoorRows
import Derived.Laws.BitsAllLaws
import Derived.Laws.Bits128
import Derived.WalkKit
import Derived.ProofKit
import Derived.OpenShut
import Derived.WalkLawsBesides
import Derived.WalkSpells
import Derived.Deep.QuietTactic
import Derived.BigQuiet
/-
  What the walks of this seat share: texts as lists of bytes, bytes as cells, endings.
-/
namespace Go.Proofs.YtnnldpccagajbaaGreatDoor
open Go.ChangeShapes Go.WideShapes Go.ChangeAt Go.RowKit
set_option linter.unusedVariables false

theorem ret_int {k : IntKind} {a b : Int} (h : a = b) : Ending.returned (.int k a) = .returned (.int k b) := by rw [h]
theorem ret_str {a b : ByteArray} (h : a = b) : Ending.returned (.string a) = .returned (.string b) := by rw [h]
theorem ret_bool {a b : Bool} (h : a = b) : Ending.returned (.bool a) = .returned (.bool b) := by rw [h]

/-- a list of bytes as a text -/
def str (l : List UInt8) : ByteArray := ⟨l.toArray⟩
theorem str_size (l : List UInt8) : (str l).size = l.length := by simp [str, ByteArray.size]
theorem str_app (a b : List UInt8) : str a ++ str b = str (a ++ b) := by
  apply ByteArray.ext; rw [ByteArray.data_append]; simp [str]
theorem str_data (d : ByteArray) : str d.data.toList = d := by apply ByteArray.ext; simp [str]
theorem data_str (l : List UInt8) : (str l).data.toList = l := by simp [str]
theorem str_inj {a b : List UInt8} : str a = str b ↔ a = b := by
  constructor
  · intro h; rw [← data_str a, ← data_str b, h]
  · intro h; rw [h]
theorem str_eq_iff {a b : ByteArray} : a = b ↔ a.data.toList = b.data.toList := by
  constructor
  · intro h; rw [h]
  · intro h; rw [← str_data a, ← str_data b, h]
theorem toList_of (s : ByteArray) : s.toList = s.data.toList := ByteArray.toList_eq s
theorem toList_str (l : List UInt8) : (str l).toList = l := by rw [toList_of, data_str]
theorem byte_le (c : UInt8) : (c.toNat : Int) ≤ 255 := by have := c.toNat_lt; omega
theorem ofNat_toNat (n : Nat) (h : n < 256) : ((UInt8.ofNat n).toNat : Int) = (n : Int) := by
  have : (UInt8.ofNat n).toNat = n := by simp; omega
  rw [this]

/-- bytes as cells -/
def bs (l : List UInt8) : List Value := l.map fun c => Value.int .u8 (c.toNat : Int)
theorem bs_length (l : List UInt8) : (bs l).length = l.length := by simp [bs]
theorem bs_snoc (l : List UInt8) (c : UInt8) : bs l ++ [Value.int .u8 (c.toNat : Int)] = bs (l ++ [c]) := by simp [bs]
theorem bs_app (a b : List UInt8) : bs a ++ bs b = bs (a ++ b) := by simp [bs]

theorem info5 : (Tryz.prog.info? 5).map (fun i => (i.zero, i.size, i.bytes)) = some (some (.int .u8 0), 1, 1) := by kernel_rfl

/-- 'string(b)' of a row of one's own -/
theorem own_string {W : World} {base : Nat} {v : Value} {l : List UInt8} {n : Nat} (h : W.ownsRow base 5 1 v n (bs l)) : Sem.run Tryz.prog (convert 65 9 v) W = .ok (.string (str l)) W := by
  obtain ⟨h1, h2⟩ := h
  rw [bs_length, Nat.mul_one] at h1
  subst h1
  rcases h2 with ⟨rfl, h0⟩ | ⟨g, cap, cur, rfl, hb, hg, hn, hc, hs, ht⟩
  · have hl : l = [] := List.eq_nil_of_length_eq_zero h0
    subst hl
    exact run_convert_bytes_nil W 65 5 Tryz.underlying65 Tryz.underlying5 0 0 9 Tryz.underlying9
  · refine run_convert_bytes_back W 65 9 5 ⟨g, 0, none⟩ cap l Tryz.underlying65 Tryz.underlying5 Tryz.underlying9 (fun j hj => ?_)
    have hown : W.ownsRow base 5 1 (.slice (some ⟨g, 0, none⟩) l.length cap) l.length (bs l) := ⟨by rw [bs_length, Nat.mul_one], Or.inr ⟨g, cap, cur, rfl, hb, hg, hn, hc, hs, ht⟩⟩
    exact hown.cells rfl j _ (by simp [bs, List.getElem?_eq_getElem hj])

/-- 'string([]byte{..})' right behind the literal -/
theorem lit_string (W : World) (xs : List Int) : Sem.run Tryz.prog (convert 65 9 (.slice (some ⟨W.heap.size, 0, none⟩) xs.length xs.length)) (W.alloc (.cells (xs.map (Value.int .u8)).toArray 5)) = .ok (.string (str (xs.map fun n => UInt8.ofNat n.toNat))) (W.alloc (.cells (xs.map (Value.int .u8)).toArray 5)) := by
  have h := run_convert_bytes_arg (P := Tryz.prog) (W.alloc (.cells (xs.map (Value.int .u8)).toArray 5)) 65 5 Tryz.underlying65 Tryz.underlying5 W.heap.size 0 xs.length xs.length xs rfl (fun i hi => by
    rw [World.cell?_alloc_at _ _ _ _ rfl]
    simp [List.getD, List.getElem?_eq_getElem hi]) 9 Tryz.underlying9
  exact h

/-- behind an append to a row of one's own -/
theorem grown_own {w wr w1 : World} {o : Obj} {e : TypeId} {v : Value} {n : Nat} {xs : List Value} {size : Nat} (hb : Below w.heap.size w wr) (hown : wr.ownsRow w.heap.size e size v n xs) (hg : (wr.alloc o).grownBy w1 v.ownBlock) : Below w.heap.size w w1 :=
  (hb.alloc hb.size o).grown hg (by have := hb.size; simp; omega) (fun k hk => (hown.lt k hk).1)

/-- a row of bytes at the head of a block, which may be written -/
def Row8 (w : World) (g : Nat) (l : List UInt8) : Prop := ∀ (i : Nat) (c : UInt8), l[i]? = some c → w.cell? ⟨g, i, none⟩ = some (.int .u8 (c.toNat : Int)) ∧ w.frozen? ⟨g, i, none⟩ = false
/-- '[]byte(s)' -/
theorem bytes_of (w : World) (s : ByteArray) : ∃ (cap : Nat) (w1 : World), Sem.run Tryz.prog (convert 9 65 (.string s)) w = .ok (.slice (some ⟨w.heap.size, 0, none⟩) s.size cap) w1 ∧ Row8 w1 w.heap.size s.data.toList ∧ Below w.heap.size w w1 ∧ s.size ≤ cap := by
  refine ⟨_, _, run_bytes_of_string w 9 65 5 s Tryz.underlying9 Tryz.underlying65 Tryz.underlying5, ?_, ?_, grownCap_ge _ _ _ _⟩
  · intro i c hc
    have hi : i < s.data.toList.length := by
      rcases Nat.lt_or_ge i s.data.toList.length with h | h
      · exact h
      · rw [List.getElem?_eq_none h] at hc; cases hc
    have hi' : i < s.data.size := by simpa using hi
    have hz : ∀ cap, i < (bytesRow s cap).size := fun cap => by unfold bytesRow; rw [Array.size_append, Array.size_map]; omega
    constructor
    · rw [show w.heap.size = w.drew.heap.size from rfl, World.cell?_alloc_mark]
      unfold bytesRow
      rw [Array.getElem?_append_left (by simpa using hi')]
      have : s.data[i]? = some c := by rw [← Array.getElem?_toList]; exact hc
      simp [this]
    · have hb : (w.drew.alloc (.cells (bytesRow s (grownCap w s.size 0 5)) 5 ((bytesRow s (grownCap w s.size 0 5)).size, (bytesRow s (grownCap w s.size 0 5)).size + 1))).heap[w.heap.size]? = some (.cells (bytesRow s (grownCap w s.size 0 5)) 5 ((bytesRow s (grownCap w s.size 0 5)).size, (bytesRow s (grownCap w s.size 0 5)).size + 1)) := by
        show (w.heap.push _)[w.heap.size]? = _
        simp
      unfold World.frozen?
      simp only [hb]
      have := hz (grownCap w s.size 0 5)
      simp; omega
  · exact (Below.refl _ _).drew.alloc (Nat.le_refl _) _
/-- 'string(b)' of such a row -/
theorem row_string {w : World} {g : Nat} {l : List UInt8} (h : Row8 w g l) (cap : Nat) : Sem.run Tryz.prog (convert 65 9 (.slice (some ⟨g, 0, none⟩) l.length cap)) w = .ok (.string (str l)) w := by
  refine run_convert_bytes_back w 65 9 5 ⟨g, 0, none⟩ cap l Tryz.underlying65 Tryz.underlying5 Tryz.underlying9 (fun j hj => ?_)
  have := (h j l[j] (by simp [hj])).1
  rw [show (⟨g, 0, none⟩ : Addr).add j = ⟨g, j, none⟩ from by unfold Addr.add; split <;> simp_all]
  exact this
end Go.Proofs.YtnnldpccagajbaaGreatDoor

/-
  A1, in plain words of lists and numbers: what Varint answers, what Unvarint reads. Nothing of the program.
-/
namespace Go.Proofs.YtnnldpccagajbaaGreatDoor

/-- 128 to the k-th -/
def pw (k : Nat) : Nat := 128 ^ k
theorem pw_zero : pw 0 = 1 := rfl
theorem pw_succ (k : Nat) : pw (k + 1) = pw k * 128 := Nat.pow_succ 128 k
theorem pw_pos (k : Nat) : 1 ≤ pw k := Nat.pow_pos (by decide)
theorem pw_le (k : Nat) (h : k ≤ 8) : pw k ≤ 72057594037927936 := by
  have : pw k ≤ pw 8 := Nat.pow_le_pow_right (by decide) h
  exact Nat.le_trans this (by decide)

/-- Varint's bytes -/
def vb (n : Nat) : List UInt8 := if n < 128 then [UInt8.ofNat n] else UInt8.ofNat (n % 128 + 128) :: vb (n / 128)
  termination_by n
  decreasing_by omega

theorem vb_small (n : Nat) (h : n < 128) : vb n = [UInt8.ofNat n] := by rw [vb, if_pos h]
theorem vb_great (n : Nat) (h : 128 ≤ n) : vb n = UInt8.ofNat (n % 128 + 128) :: vb (n / 128) := by rw [vb, if_neg (by omega)]

theorem vb_length (k n : Nat) (h : n < pw (k + 1)) : (vb n).length ≤ k + 1 := by
  induction k generalizing n with
  | zero => rw [vb_small n (by rw [pw_succ, pw_zero] at h; omega)]; simp
  | succ k ih =>
    by_cases hn : n < 128
    · rw [vb_small n hn]; simp
    · rw [vb_great n (by omega)]
      have := ih (n / 128) (by rw [pw_succ] at h; omega)
      simp only [List.length_cons]; omega
theorem vb_length9 (n : Nat) (h : n < 9223372036854775808) : (vb n).length ≤ 9 :=
  vb_length 8 n (by show n < 128 ^ 9; omega)

/-- Unvarint's reading: k bytes are behind it, which have made acc -/
def uv (k acc : Nat) : List UInt8 → Option (Nat × Nat)
  | [] => none
  | c :: t => if 9 ≤ k then none else if c.toNat < 128 then (if c.toNat = 0 ∧ 0 < k then none else some (acc + pw k * (c.toNat % 128), k + 1)) else uv (k + 1) (acc + pw k * (c.toNat % 128)) t

theorem uv_nil (k acc : Nat) : uv k acc [] = none := rfl
theorem uv_nine (acc : Nat) (l : List UInt8) : uv 9 acc l = none := by cases l <;> simp [uv]
theorem uv_more (k acc : Nat) (c : UInt8) (t : List UInt8) (hk : k < 9) (h : 128 ≤ c.toNat) : uv k acc (c :: t) = uv (k + 1) (acc + pw k * (c.toNat % 128)) t := by
  rw [uv, if_neg (by omega), if_neg (by omega)]
theorem uv_last (k acc : Nat) (c : UInt8) (t : List UInt8) (hk : k < 9) (h : c.toNat < 128) (hz : ¬ (c.toNat = 0 ∧ 0 < k)) : uv k acc (c :: t) = some (acc + pw k * (c.toNat % 128), k + 1) := by
  rw [uv, if_neg (by omega), if_pos h, if_neg hz]
theorem uv_needless (k acc : Nat) (c : UInt8) (t : List UInt8) (hk : k < 9) (h : c.toNat = 0) (hz : 0 < k) : uv k acc (c :: t) = none := by
  rw [uv, if_neg (by omega), if_pos (by omega), if_pos ⟨h, hz⟩]

theorem uv_vb (j k n acc : Nat) (rest : List UInt8) (hj : j + k = 8) (h : n < pw (j + 1)) (hn : k = 0 ∨ 0 < n) :
    uv k acc (vb n ++ rest) = some (acc + pw k * n, k + (vb n).length) := by
  induction j generalizing k n acc with
  | zero =>
    rw [pw_succ, pw_zero] at h
    have hb : (UInt8.ofNat n).toNat = n := by simp; omega
    rw [vb_small n (by omega)]
    show uv k acc (UInt8.ofNat n :: rest) = _
    rw [uv_last k acc _ rest (by omega) (by omega) (by omega), hb, Nat.mod_eq_of_lt (by omega)]
    simp
  | succ j ih =>
    by_cases hs : n < 128
    · have hb : (UInt8.ofNat n).toNat = n := by simp; omega
      rw [vb_small n hs]
      show uv k acc (UInt8.ofNat n :: rest) = _
      rw [uv_last k acc _ rest (by omega) (by omega) (by omega), hb, Nat.mod_eq_of_lt (by omega)]
      simp
    · have hb : (UInt8.ofNat (n % 128 + 128)).toNat = n % 128 + 128 := by simp; omega
      rw [vb_great n (by omega), List.cons_append, uv_more k acc _ _ (by omega) (by omega), hb]
      rw [ih (k + 1) (n / 128) _ (by omega) (by rw [pw_succ] at h; omega) (by omega)]
      rw [List.length_cons, pw_succ]
      have e : (n % 128 + 128) % 128 = n % 128 := by omega
      have e2 : acc + pw k * ((n % 128 + 128) % 128) + pw k * 128 * (n / 128) = acc + pw k * n := by
        rw [e, Nat.mul_assoc, Nat.add_assoc, ← Nat.mul_add]; congr 2; omega
      rw [e2]
      congr 2; omega

theorem uv_back (n : Nat) (h : n < 9223372036854775808) (rest : List UInt8) : uv 0 0 (vb n ++ rest) = some (n, (vb n).length) := by
  rw [uv_vb 8 0 n 0 rest rfl (by show n < 128 ^ 9; omega) (Or.inl rfl)]
  simp [pw_zero]

theorem pw_two (k : Nat) : pw k = 2 ^ (7 * k) := by unfold pw; rw [show (128 : Nat) = 2 ^ 7 from rfl, Nat.pow_mul]
theorem wraps63 (n : Int) (h0 : 0 ≤ n) (h1 : n < 2 ^ 63) : IntKind.i64.wrap n = n := by rw [IntKind.wrap_i64]; omega
/-- seven bits more -/
theorem or_group (k acc : Nat) (c : UInt8) (hk : k ≤ 8) (h : acc < pw k) :
    bits .or .i64 (acc : Int) (((c.toNat % 128 : Nat) : Int) * 2 ^ (7 * k)) = ((acc + pw k * (c.toNat % 128) : Nat) : Int) := by
  have hp := pw_le k hk
  have b : pw k * (c.toNat % 128) ≤ pw k * 127 := Nat.mul_le_mul_left _ (by omega)
  have e : ((c.toNat % 128 : Nat) : Int) * 2 ^ (7 * k) = ((pw k * (c.toNat % 128) : Nat) : Int) := by
    rw [pw_two]; push_cast; rw [Int.mul_comm]
  rw [e, (bits_nat .i64 63 (by decide) wraps63 acc (pw k * (c.toNat % 128)) (by omega) (by omega)).2]
  rw [Nat.or_comm, nat_join (7 * k) _ acc (by rw [← pw_two]; exact Nat.mul_mod_right _ _) (by rw [← pw_two]; exact h), Nat.add_comm]

/-- the bytes of a string from a place on -/
def from_ (s : ByteArray) (k : Nat) : List UInt8 := s.data.toList.drop k
theorem from_end (s : ByteArray) (k : Nat) (h : s.size ≤ k) : from_ s k = [] := by
  unfold from_; exact List.drop_of_length_le (by simpa using h)
theorem from_cons (s : ByteArray) (k : Nat) (h : k < s.size) : from_ s k = s[k] :: from_ s (k + 1) := by
  unfold from_; rw [List.drop_eq_getElem_cons (by simpa using h)]; rfl
theorem from_app (a b : ByteArray) : from_ (a ++ b) a.size = b.data.toList := by
  unfold from_; rw [ByteArray.data_append, Array.toList_append, List.drop_left' (by simp)]

end Go.Proofs.YtnnldpccagajbaaGreatDoor

/-
  Chapter 2 in plain words of lists: what Build answers, what Open reads. Nothing of the program.
-/
namespace Go.Proofs.YtnnldpccagajbaaGreatDoor
/-- how many bytes at their beginnings are the same -/
def common : List UInt8 → List UInt8 → Nat
  | a :: x, b :: y => if a = b then common x y + 1 else 0
  | _, _ => 0
theorem common_le : ∀ a b : List UInt8, common a b ≤ a.length ∧ common a b ≤ b.length
  | [], _ => by simp [common]
  | _ :: _, [] => by simp [common]
  | x :: a, y :: b => by
    have := common_le a b
    unfold common; split <;> simp <;> omega
theorem common_take : ∀ a b : List UInt8, a.take (common a b) = b.take (common a b)
  | [], _ => by simp [common]
  | _ :: _, [] => by simp [common]
  | x :: a, y :: b => by
    have := common_take a b
    unfold common; split
    · rename_i h; subst h; simp [this]
    · simp
theorem common_join (a b : List UInt8) : a.take (common a b) ++ b.drop (common a b) = b := by
  rw [common_take, List.take_append_drop]

/-- does a text stand behind another one? (byte by byte) -/
def behind (a b : List UInt8) : Bool := Op.bytesLess a b

/-- what a text adds behind another one -/
def part (p t : List UInt8) : List UInt8 := vb (common p t) ++ (vb (t.length - common p t) ++ t.drop (common p t))
/-- may a text stand behind what is ahead of it? -/
def follows (p : Option (List UInt8)) (t : List UInt8) : Bool := match p with
  | none => true
  | some q => behind q t
/-- B1: from the i-th text on; p: the text ahead of it -/
def bld (i : Nat) (p : Option (List UInt8)) (out : List UInt8) : List (List UInt8) → List UInt8 × Nat × Nat
  | [] => (out, 0, 0)
  | t :: r => if 200 < t.length then ([], 1, i) else if follows p t then bld (i + 1) (some t) (out ++ part (p.getD []) t) r else ([], 6, i)
/-- B1 -/
def build (l : List (List UInt8)) : List UInt8 × Nat × Nat := bld 0 none (vb l.length) l
/-- the bytes behind the count -/
def enc (p : List UInt8) : List (List UInt8) → List UInt8
  | [] => []
  | t :: r => part p t ++ enc t r
/-- may texts follow one another, and are they short? -/
def good (p : Option (List UInt8)) : List (List UInt8) → Bool
  | [] => true
  | t :: r => decide (t.length ≤ 200) && follows p t && good (some t) r

theorem bld_long (i : Nat) (p : Option (List UInt8)) (out t : List UInt8) (r : List (List UInt8)) (h : 200 < t.length) : bld i p out (t :: r) = ([], 1, i) := by
  rw [bld, if_pos h]
theorem bld_order (i : Nat) (p : Option (List UInt8)) (out t : List UInt8) (r : List (List UInt8)) (h : t.length ≤ 200) (hf : follows p t = false) : bld i p out (t :: r) = ([], 6, i) := by
  rw [bld, if_neg (by omega), if_neg (by simp [hf])]
theorem bld_next (i : Nat) (p : Option (List UInt8)) (out t : List UInt8) (r : List (List UInt8)) (h : t.length ≤ 200) (hf : follows p t = true) : bld i p out (t :: r) = bld (i + 1) (some t) (out ++ part (p.getD []) t) r := by
  rw [bld, if_neg (by omega), if_pos hf]
theorem bld_good (l : List (List UInt8)) (i : Nat) (p : Option (List UInt8)) (out : List UInt8) (h : good p l = true) : bld i p out l = (out ++ enc (p.getD []) l, 0, 0) := by
  induction l generalizing i p out with
  | nil => simp [bld, enc]
  | cons t r ih =>
    simp only [good, Bool.and_eq_true, decide_eq_true_eq] at h
    obtain ⟨⟨h1, h2⟩, h3⟩ := h
    rw [bld_next i p out t r h1 h2, ih _ _ _ h3]
    simp [enc]
theorem bld_bad (l : List (List UInt8)) (i : Nat) (p : Option (List UInt8)) (out : List UInt8) (h : good p l = false) : (bld i p out l).2.1 = 1 ∨ (bld i p out l).2.1 = 6 := by
  induction l generalizing i p out with
  | nil => simp [good] at h
  | cons t r ih =>
    by_cases h1 : 200 < t.length
    · rw [bld_long i p out t r h1]; exact Or.inl rfl
    · have h1' : decide (t.length ≤ 200) = true := by simp; omega
      cases hf : follows p t with
      | true => rw [bld_next i p out t r (by omega) hf]; exact ih _ _ _ (by simpa [good, h1', hf] using h)
      | false => rw [bld_order i p out t r (by omega) hf]; exact Or.inr rfl
theorem build_ok (l : List (List UInt8)) : (build l).2.1 = 0 ↔ good none l = true := by
  cases h : good none l with
  | true => unfold build; rw [bld_good l _ _ _ h]; simp
  | false => have := bld_bad l 0 none (vb l.length) h; unfold build; simp; omega
theorem build_good (l : List (List UInt8)) (h : good none l = true) : build l = (vb l.length ++ enc [] l, 0, 0) := bld_good l 0 none _ h

/-- a number at the beginning, and what is behind it -/
def rd (d : List UInt8) : Option (Nat × List UInt8) := match uv 0 0 d with
  | none => none
  | some (n, k) => some (n, d.drop k)
theorem rd_vb (n : Nat) (h : n < 9223372036854775808) (d : List UInt8) : rd (vb n ++ d) = some (n, d) := by
  unfold rd; rw [uv_back n h]; simp
/-- texts read one behind the other -/
def parse : Nat → List UInt8 → List UInt8 → Option (List (List UInt8))
  | 0, _, _ => some []
  | n + 1, p, d => match rd d with
    | none => none
    | some (head, d1) => if p.length < head then none else match rd d1 with
      | none => none
      | some (rest, d2) => if d2.length < rest then none else match parse n (p.take head ++ d2.take rest) (d2.drop rest) with
        | none => none
        | some l => some ((p.take head ++ d2.take rest) :: l)
theorem parse_enc (l : List (List UInt8)) (p : List UInt8) (d : List UInt8) (h : ∀ t ∈ l, t.length < 9223372036854775808) : parse l.length p (enc p l ++ d) = some l := by
  induction l generalizing p with
  | nil => simp [parse]
  | cons t r ih =>
    have hc := common_le p t
    have ht := h t (by simp)
    rw [List.length_cons, parse, enc, part]
    have e1 : vb (common p t) ++ (vb (t.length - common p t) ++ t.drop (common p t)) ++ enc t r ++ d = vb (common p t) ++ (vb (t.length - common p t) ++ (t.drop (common p t) ++ (enc t r ++ d))) := by simp
    rw [e1, rd_vb _ (by omega)]
    simp only
    rw [if_neg (by omega), rd_vb _ (by omega)]
    simp only
    have hl : (t.drop (common p t)).length = t.length - common p t := by simp
    rw [if_neg (by rw [List.length_append, hl]; omega), List.take_left' hl, List.drop_left' hl, common_join, ih t (fun x hx => h x (by simp [hx]))]
/-- B2: the list, if there is one -/
def open_ (d : List UInt8) : Option (List (List UInt8)) := match rd d with
  | none => none
  | some (n, d1) => if d.length < n then none else match parse n [] d1 with
    | none => none
    | some l => if build l = (d, 0, 0) then some l else none
theorem vb_pos (n : Nat) : 0 < (vb n).length := by
  rw [vb]; split <;> simp
theorem enc_length (p : List UInt8) (l : List (List UInt8)) : l.length ≤ (enc p l).length := by
  induction l generalizing p with
  | nil => simp [enc]
  | cons t r ih =>
    have := ih t
    have := vb_pos (common p t)
    rw [enc, part]; simp; omega
theorem good_len (l : List (List UInt8)) (p : Option (List UInt8)) (h : good p l = true) : ∀ t ∈ l, t.length ≤ 200 := by
  induction l generalizing p with
  | nil => simp
  | cons t r ih =>
    simp only [good, Bool.and_eq_true, decide_eq_true_eq] at h
    intro x hx
    rcases List.mem_cons.1 hx with rfl | hx
    · exact h.1.1
    · exact ih _ h.2 x hx
/-- what Build answers is read as the list -/
theorem open_build (l : List (List UInt8)) (h : good none l = true) (hl : l.length < 9223372036854775808) : open_ (build l).1 = some l := by
  have hb := build_good l h
  rw [hb]
  simp only
  unfold open_
  rw [rd_vb _ hl]
  simp only
  have := enc_length [] l
  rw [if_neg (by rw [List.length_append]; omega)]
  have hp := parse_enc l [] [] (fun t ht => by have := good_len l none h t ht; omega)
  rw [List.append_nil] at hp
  rw [hp]
  simp only
  rw [if_pos hb]
theorem open_some (d : List UInt8) (l : List (List UInt8)) (h : open_ d = some l) : build l = (d, 0, 0) := by
  unfold open_ at h
  split at h
  · cases h
  · split at h
    · cases h
    · split at h
      · cases h
      · split at h
        · cases h; assumption
        · cases h
/-- the least number of a text; -1 -/
def find (l : List (List UInt8)) (s : List UInt8) : Int := match l.findIdx? (· == s) with
  | none => -1
  | some i => i
theorem less_or (a b : List UInt8) : (Op.bytesLess a b || a == b) = !(Op.bytesLess b a) := by
  induction a generalizing b with
  | nil => cases b <;> simp [Op.bytesLess]
  | cons x a ih =>
    cases b with
    | nil => simp [Op.bytesLess]
    | cons y b =>
      have h := ih b
      simp only [Op.bytesLess]
      rcases Nat.lt_trichotomy x.toNat y.toNat with c | c | c
      · have c1 : x < y := UInt8.lt_iff_toNat_lt.2 c
        have c2 : ¬ y < x := fun k => by have := UInt8.lt_iff_toNat_lt.1 k; omega
        have c3 : ¬ y = x := fun k => by subst k; omega
        simp [c1, c2, c3]
      · have c1 : x = y := UInt8.toNat_inj.1 c
        subst c1
        have c2 : ¬ x < x := fun k => by have := UInt8.lt_iff_toNat_lt.1 k; omega
        simpa [c2] using h
      · have c1 : y < x := UInt8.lt_iff_toNat_lt.2 c
        have c2 : ¬ x < y := fun k => by have := UInt8.lt_iff_toNat_lt.1 k; omega
        have c3 : ¬ x = y := fun k => by subst k; omega
        simp [c1, c2, c3]
theorem leq_not (p t : List UInt8) : (Op.bytesLess t p || t == p) = !(behind p t) := less_or t p
theorem drop_row (l : List (List UInt8)) (k : Nat) (h : k < l.length) : l.drop k = l[k] :: l.drop (k + 1) := List.drop_eq_getElem_cons h
/-- the text ahead of the k-th one -/
def prev (l : List (List UInt8)) (k : Nat) : Option (List UInt8) := if k = 0 then none else l[k - 1]?
theorem prev_succ (l : List (List UInt8)) (k : Nat) (h : k < l.length) : prev l (k + 1) = some l[k] := by simp [prev, h]
theorem part_length (p t : List UInt8) (h : t.length ≤ 200) : (part p t).length ≤ 218 := by
  have h1 := (common_le p t).2
  have h2 := vb_length9 (common p t) (by omega)
  have h3 := vb_length9 (t.length - common p t) (by omega)
  unfold part; simp; omega
theorem uv_len (l : List UInt8) (k acc n m : Nat) (h : uv k acc l = some (n, m)) : k < m ∧ m ≤ k + l.length := by
  induction l generalizing k acc with
  | nil => simp [uv] at h
  | cons c t ih =>
    rw [uv] at h
    split at h
    · cases h
    · split at h
      · split at h
        · cases h
        · cases h; simp only [List.length_cons]; omega
      · have := ih _ _ h
        simp only [List.length_cons]; omega
theorem uv_lt (l : List UInt8) (k acc n m : Nat) (ha : acc < pw k) (h : uv k acc l = some (n, m)) : n < 9223372036854775808 := by
  induction l generalizing k acc with
  | nil => simp [uv] at h
  | cons c t ih =>
    rw [uv] at h
    have b : pw k * (c.toNat % 128) ≤ pw k * 127 := Nat.mul_le_mul_left _ (by omega)
    have hs := pw_succ k
    split at h
    · cases h
    · rename_i hk
      have hp := pw_le k (by omega)
      split at h
      · split at h
        · cases h
        · cases h; omega
      · exact ih (k + 1) _ (by omega) h
theorem from_drop (s : ByteArray) (p k : Nat) : (from_ s p).drop k = from_ s (p + k) := by unfold from_; rw [List.drop_drop]
theorem from_len (s : ByteArray) (p : Nat) : (from_ s p).length = s.size - p := by unfold from_; simp
theorem from_zero (s : ByteArray) : from_ s 0 = s.data.toList := by unfold from_; simp
theorem rd_none (s : ByteArray) (p : Nat) (h : uv 0 0 (from_ s p) = none) : rd (from_ s p) = none := by unfold rd; rw [h]
theorem rd_some (s : ByteArray) (p n k : Nat) (h : uv 0 0 (from_ s p) = some (n, k)) : rd (from_ s p) = some (n, from_ s (p + k)) := by unfold rd; rw [h]; simp only; rw [from_drop]
theorem uv_in (s : ByteArray) (p n k : Nat) (hp : p ≤ s.size) (h : uv 0 0 (from_ s p) = some (n, k)) : 0 < k ∧ p + k ≤ s.size ∧ n < 9223372036854775808 := by
  have h1 := uv_len _ _ _ _ _ h
  rw [from_len] at h1
  have h2 := uv_lt _ 0 0 _ _ (by decide) h
  omega
/-- one text more -/
theorem parse_step (s : ByteArray) (n p head k1 rest k2 : Nat) (ah : List UInt8) (h1 : uv 0 0 (from_ s p) = some (head, k1)) (h2 : head ≤ ah.length)
    (h3 : uv 0 0 (from_ s (p + k1)) = some (rest, k2)) (h4 : rest + (p + k1 + k2) ≤ s.size) :
    parse (n + 1) ah (from_ s p) = (parse n (ah.take head ++ (from_ s (p + k1 + k2)).take rest) (from_ s (p + k1 + k2 + rest))).map ((ah.take head ++ (from_ s (p + k1 + k2)).take rest) :: ·) := by
  rw [parse, rd_some s p head k1 h1]
  simp only
  rw [if_neg (by omega), rd_some s (p + k1) rest k2 h3]
  simp only
  rw [if_neg (by rw [from_len]; omega), from_drop]
  cases parse n (ah.take head ++ (from_ s (p + k1 + k2)).take rest) (from_ s (p + k1 + k2 + rest)) <;> rfl
theorem parse_none1 (s : ByteArray) (n p : Nat) (ah : List UInt8) (h1 : uv 0 0 (from_ s p) = none) : parse (n + 1) ah (from_ s p) = none := by
  rw [parse, rd_none s p h1]
theorem parse_none2 (s : ByteArray) (n p head k1 : Nat) (ah : List UInt8) (h1 : uv 0 0 (from_ s p) = some (head, k1)) (h2 : ah.length < head) : parse (n + 1) ah (from_ s p) = none := by
  rw [parse, rd_some s p head k1 h1]; simp only; rw [if_pos h2]
theorem parse_none3 (s : ByteArray) (n p head k1 : Nat) (ah : List UInt8) (h1 : uv 0 0 (from_ s p) = some (head, k1)) (h3 : uv 0 0 (from_ s (p + k1)) = none) : parse (n + 1) ah (from_ s p) = none := by
  rw [parse, rd_some s p head k1 h1]; simp only
  split
  · rfl
  · rw [rd_none s _ h3]
theorem parse_none4 (s : ByteArray) (n p head k1 rest k2 : Nat) (ah : List UInt8) (h1 : uv 0 0 (from_ s p) = some (head, k1))
    (h3 : uv 0 0 (from_ s (p + k1)) = some (rest, k2)) (h4 : s.size - (p + k1 + k2) < rest) : parse (n + 1) ah (from_ s p) = none := by
  rw [parse, rd_some s p head k1 h1]; simp only
  split
  · rfl
  · rw [rd_some s (p + k1) rest k2 h3]; simp only; rw [if_pos (by rw [from_len]; exact h4)]
theorem open_none1 (s : ByteArray) (h : uv 0 0 (from_ s 0) = none) : open_ s.data.toList = none := by
  unfold open_; rw [← from_zero, rd_none s 0 h]
theorem open_none2 (s : ByteArray) (n k : Nat) (h : uv 0 0 (from_ s 0) = some (n, k)) (hn : s.size < n) : open_ s.data.toList = none := by
  unfold open_; rw [← from_zero, rd_some s 0 n k h]; simp only; rw [if_pos (by rw [from_len]; omega)]
theorem open_of (s : ByteArray) (n k : Nat) (h : uv 0 0 (from_ s 0) = some (n, k)) (hn : n ≤ s.size) :
    open_ s.data.toList = match parse n [] (from_ s k) with | none => none | some l => if build l = (s.data.toList, 0, 0) then some l else none := by
  unfold open_; rw [← from_zero, rd_some s 0 n k h]; simp only; rw [if_neg (by rw [from_len]; omega), Nat.zero_add]
theorem build_iff (l : List (List UInt8)) (d : List UInt8) : build l = (d, 0, 0) ↔ (build l).2.1 = 0 ∧ (build l).1 = d := by
  constructor
  · intro h; rw [h]; exact ⟨rfl, rfl⟩
  · intro ⟨h1, h2⟩
    have := build_good l ((build_ok l).1 h1)
    rw [this] at h2 ⊢
    simp only at h2
    rw [h2]
theorem open_good (d : List UInt8) (l : List (List UInt8)) (h : open_ d = some l) : good none l = true ∧ l.length ≤ d.length := by
  have hb := open_some d l h
  have hg : good none l = true := (build_ok l).1 (by rw [hb])
  have := build_good l hg
  rw [hb] at this
  simp only [Prod.mk.injEq, and_true] at this
  have he := enc_length [] l
  refine ⟨hg, ?_⟩
  rw [this, List.length_append]; omega
theorem less_irrefl (a : List UInt8) : Op.bytesLess a a = false := by
  induction a with
  | nil => rfl
  | cons x a ih =>
    have c : ¬ x < x := fun k => by have := UInt8.lt_iff_toNat_lt.1 k; omega
    simp [Op.bytesLess, c, ih]
theorem less_trans (a b c : List UInt8) (h1 : Op.bytesLess a b = true) (h2 : Op.bytesLess b c = true) : Op.bytesLess a c = true := by
  induction a generalizing b c with
  | nil =>
    cases c with
    | nil => cases b <;> simp [Op.bytesLess] at h2
    | cons z c => rfl
  | cons x a ih =>
    cases b with
    | nil => simp [Op.bytesLess] at h1
    | cons y b =>
      cases c with
      | nil => simp [Op.bytesLess] at h2
      | cons z c =>
        simp only [Op.bytesLess, Bool.or_eq_true, decide_eq_true_eq, Bool.and_eq_true, beq_iff_eq] at h1 h2 ⊢
        rcases h1 with h1 | ⟨rfl, h1⟩
        · rcases h2 with h2 | ⟨rfl, h2⟩
          · left
            have a1 := UInt8.lt_iff_toNat_lt.1 h1
            have a2 := UInt8.lt_iff_toNat_lt.1 h2
            exact UInt8.lt_iff_toNat_lt.2 (by omega)
          · exact Or.inl h1
        · rcases h2 with h2 | ⟨rfl, h2⟩
          · exact Or.inl h2
          · exact Or.inr ⟨rfl, ih b c h1 h2⟩
theorem good_behind (l : List (List UInt8)) (p : List UInt8) (h : good (some p) l = true) : ∀ t ∈ l, behind p t = true := by
  induction l generalizing p with
  | nil => simp
  | cons t r ih =>
    simp only [good, Bool.and_eq_true, decide_eq_true_eq] at h
    obtain ⟨⟨_, h2⟩, h3⟩ := h
    have h2' : behind p t = true := h2
    intro x hx
    rcases List.mem_cons.1 hx with rfl | hx
    · exact h2'
    · exact less_trans p t x h2' (ih t h3 x hx)
theorem good_tail (l : List (List UInt8)) (p : Option (List UInt8)) (t : List UInt8) (h : good p (t :: l) = true) : good (some t) l = true := by
  simp only [good, Bool.and_eq_true] at h; exact h.2
theorem good_rise (l : List (List UInt8)) (p : Option (List UInt8)) (h : good p l = true) (i j : Nat) (x y : List UInt8) (hij : i < j) (hx : l[i]? = some x) (hy : l[j]? = some y) : behind x y = true := by
  induction l generalizing p i j with
  | nil => simp at hx
  | cons t r ih =>
    have hg := good_tail r p t h
    cases j with
    | zero => omega
    | succ j =>
      cases i with
      | zero =>
        simp at hx hy
        subst hx
        exact good_behind r t hg y (List.mem_of_getElem? hy)
      | succ i => exact ih (some t) hg i j (by omega) (by simpa using hx) (by simpa using hy)
theorem good_other (l : List (List UInt8)) (h : good none l = true) (k : Nat) (x : List UInt8) (hk : l[k]? = some x) : ∀ i, i < k → l[i]? ≠ some x := by
  intro i hi he
  have := good_rise l none h i k x x hi he hk
  rw [behind, less_irrefl] at this; cases this
theorem bld_len (l : List (List UInt8)) (i : Nat) (p : Option (List UInt8)) (out : List UInt8) : (bld i p out l).1.length ≤ out.length + 218 * l.length := by
  induction l generalizing i p out with
  | nil => simp [bld]
  | cons t r ih =>
    rw [bld]
    split
    · simp
    · split
      · have := ih (i + 1) (some t) (out ++ part (p.getD []) t)
        have hp := part_length (p.getD []) t (by omega)
        simp only [List.length_append] at this
        simp only [List.length_cons]; omega
      · simp
theorem build_len (l : List (List UInt8)) (h : l.length < 9223372036854775808) : (build l).1.length ≤ 9 + 218 * l.length := by
  have := bld_len l 0 none (vb l.length)
  have h9 := vb_length9 l.length h
  unfold build; omega
end Go.Proofs.YtnnldpccagajbaaGreatDoor
