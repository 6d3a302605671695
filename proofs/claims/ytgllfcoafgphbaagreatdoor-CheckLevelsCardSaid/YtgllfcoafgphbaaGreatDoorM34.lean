import Derived.Laws.BitsAllLaws
import Derived.Laws.Bits128
import Derived.Laws.BitsLemmas
import Derived.Test.YtgllfcoafgphbaaGreatDoorM23
import Derived.Test.YtgllfcoafgphbaaGreatDoorM22
import Derived.Lib.OwnKind
import Derived.Test.YtgllfcoafgphbaaGreatDoorM01
/-
  Plain facts on bits and numbers, for the walks of this seat. Nothing of the program.
-/
namespace Go.Proofs.YtgllfcoafgphbaaGreatDoor

theorem not64 (x : Int) (h1 : -9223372036854775808 ≤ x) (h2 : x ≤ 9223372036854775807) : bits .xor .i64 (-1) x = -1 - x := by
  show IntKind.i64.wrap ((BitVec.ofInt 64 (-1) ^^^ BitVec.ofInt 64 x).toNat : Int) = _
  have e1 : BitVec.ofInt 64 (-1) = BitVec.allOnes 64 := by decide
  rw [e1, BitVec.allOnes_xor, BitVec.toNat_not, BitVec.toNat_ofInt, IntKind.wrap_i64]
  omega

theorem and1 (n : Int) : bits .and .i64 n 1 = n % 2 := by
  have h1 : (BitVec.ofInt 64 1).toNat = 2 ^ 1 - 1 := by decide
  have key : (BitVec.ofInt 64 n &&& BitVec.ofInt 64 1).toNat = (n % ((2 ^ 64 : Nat) : Int)).toNat % 2 ^ 1 := by
    rw [BitVec.toNat_and, BitVec.toNat_ofInt, h1, Nat.and_two_pow_sub_one_eq_mod]
  show IntKind.i64.wrap ((BitVec.ofInt 64 n &&& BitVec.ofInt 64 1).toNat : Nat) = n % 2
  rw [key, IntKind.wrap_i64]
  omega

/-- A2: what Fold answers -/
def fold (n : Int) : Int := if 0 ≤ n ∧ n < 4611686018427387904 then 2 * n else if n < 0 ∧ -4611686018427387904 ≤ n then -2 * n - 1 else 0
/-- A2: what Unfold answers -/
def unfold (n : Int) : Int := if n < 0 then 0 else if n % 2 = 0 then n / 2 else -1 - n / 2

theorem fold_bd (n : Int) : 0 ≤ fold n ∧ fold n ≤ 9223372036854775807 := by
  unfold fold; split
  · omega
  · split <;> omega
theorem unfold_bd (n : Int) (h : n ≤ 9223372036854775807) : -4611686018427387904 ≤ unfold n ∧ unfold n ≤ 4611686018427387903 := by
  unfold Go.Proofs.YtgllfcoafgphbaaGreatDoor.unfold; split
  · omega
  · split <;> omega
theorem back (n : Int) (h1 : -4611686018427387904 ≤ n) (h2 : n < 4611686018427387904) : unfold (fold n) = n := by
  unfold fold; split
  · unfold Go.Proofs.YtgllfcoafgphbaaGreatDoor.unfold; rw [if_neg (by omega), if_pos (by omega)]; omega
  · rw [if_pos (by omega)]; unfold Go.Proofs.YtgllfcoafgphbaaGreatDoor.unfold; rw [if_neg (by omega), if_neg (by omega)]; omega
theorem again (n : Int) (h1 : 0 ≤ n) (h2 : n ≤ 9223372036854775807) : fold (unfold n) = n := by
  unfold Go.Proofs.YtgllfcoafgphbaaGreatDoor.unfold; rw [if_neg (by omega)]; split
  · unfold fold; rw [if_pos (by omega)]; omega
  · unfold fold; rw [if_neg (by omega), if_pos (by omega)]; omega

end Go.Proofs.YtgllfcoafgphbaaGreatDoor

/-
  A3 in plain words of numbers: a sum is linear but for a constant, and what was turned within 32 bits side by side is another number.
-/
namespace Go.Proofs.YtgllfcoafgphbaaGreatDoor.Crc
def halve (n : Nat) : Nat := n / 2 ^^^ (if n % 2 = 1 then 3988292384 else 0)
def halves : Nat → Nat → Nat
  | 0, n => n
  | k + 1, n => halves k (halve n)

theorem xor_mod2 (a b : Nat) : (a ^^^ b) % 2 = (a % 2 + b % 2) % 2 := by
  have h := Nat.xor_mod_two_pow (a := a) (b := b) (n := 1)
  rw [Nat.pow_one] at h
  rw [h]
  rcases Nat.mod_two_eq_zero_or_one a with h | h <;> rcases Nat.mod_two_eq_zero_or_one b with g | g <;> simp [h, g]

theorem xor_cancel (a b c : Nat) (h : a ^^^ b = a ^^^ c) : b = c := by
  have e : a ^^^ (a ^^^ b) = a ^^^ (a ^^^ c) := by rw [h]
  rwa [← Nat.xor_assoc, ← Nat.xor_assoc, Nat.xor_self, Nat.zero_xor, Nat.zero_xor] at e

theorem xor_zero_eq (a b : Nat) (h : a ^^^ b = 0) : a = b := by
  exact (xor_cancel a b a (by rw [h, Nat.xor_self])).symm

theorem xor_mul_pow (a b k : Nat) : (a ^^^ b) * 2 ^ k = a * 2 ^ k ^^^ b * 2 ^ k := by
  apply Nat.eq_of_testBit_eq; intro i
  simp only [Nat.testBit_mul_two_pow, Nat.testBit_xor]
  cases decide (k ≤ i) <;> simp

theorem xor_div2 (a b : Nat) : (a ^^^ b) / 2 = a / 2 ^^^ b / 2 := by
  apply Nat.eq_of_testBit_eq; intro i
  simp [Nat.testBit_div_two, Nat.testBit_xor]

theorem xor_swap4 (a b c d : Nat) : (a ^^^ b) ^^^ (c ^^^ d) = (a ^^^ c) ^^^ (b ^^^ d) := by
  rw [Nat.xor_assoc, Nat.xor_assoc, ← Nat.xor_assoc b, ← Nat.xor_assoc c, Nat.xor_comm b c]

theorem halve_xor (a b : Nat) : halve (a ^^^ b) = halve a ^^^ halve b := by
  unfold halve
  rw [xor_div2, xor_mod2, xor_swap4]
  congr 1
  rcases Nat.mod_two_eq_zero_or_one a with h | h <;> rcases Nat.mod_two_eq_zero_or_one b with g | g <;> simp [h, g]

theorem halve_two (n : Nat) : halve (2 * n) = n := by
  unfold halve
  simp

theorem halve_lt (n : Nat) (h : n < 2 ^ 32) : halve n < 2 ^ 32 := by
  unfold halve
  apply Nat.xor_lt_two_pow
  · omega
  · split <;> decide

theorem halve_zero (n : Nat) (h : n < 2 ^ 32) (h0 : halve n = 0) : n = 0 := by
  unfold halve at h0
  by_cases o : n % 2 = 1
  · rw [if_pos o] at h0
    have := xor_zero_eq _ _ h0
    omega
  · rw [if_neg o] at h0
    simp at h0
    omega

theorem halves_xor (k a b : Nat) : halves k (a ^^^ b) = halves k a ^^^ halves k b := by
  induction k generalizing a b with
  | zero => rfl
  | succ k ih => simp only [halves]; rw [halve_xor, ih]

theorem halves_add (j k n : Nat) : halves (j + k) n = halves k (halves j n) := by
  induction j generalizing n with
  | zero => simp [halves]
  | succ j ih => rw [Nat.succ_add]; simp only [halves]; rw [ih]

theorem halves_pow (k m : Nat) : halves k (m * 2 ^ k) = m := by
  induction k with
  | zero => simp [halves]
  | succ k ih =>
    simp only [halves]
    rw [Nat.pow_succ, show m * (2 ^ k * 2) = 2 * (m * 2 ^ k) from by rw [Nat.mul_comm (2 ^ k) 2]; rw [Nat.mul_left_comm], halve_two, ih]

theorem halves_lt (k n : Nat) (h : n < 2 ^ 32) : halves k n < 2 ^ 32 := by
  induction k generalizing n with
  | zero => exact h
  | succ k ih => exact ih _ (halve_lt n h)

theorem halves_zero (k n : Nat) (h : n < 2 ^ 32) (h0 : halves k n = 0) : n = 0 := by
  induction k generalizing n with
  | zero => exact h0
  | succ k ih => exact halve_zero n h (ih _ (halve_lt n h) h0)

/-- one byte -/
def step (n c : Nat) : Nat := halves 8 (n ^^^ c)
def crc (n : Nat) (l : List Nat) : Nat := l.foldl step n
def leN : List Nat → Nat
  | [] => 0
  | c :: t => c ^^^ leN t * 2 ^ 8

theorem crc_halves (l : List Nat) (n : Nat) : halves (8 * l.length) (n ^^^ leN l) = crc n l := by
  induction l generalizing n with
  | nil => simp [halves, leN, crc]
  | cons c t ih =>
    rw [List.length_cons, show 8 * (t.length + 1) = 8 + 8 * t.length from by omega, halves_add]
    rw [leN, ← Nat.xor_assoc, halves_xor 8, halves_pow, ih]
    rfl

theorem leN_lt8 (c x : Nat) (h : c < 256) : (c ^^^ x * 2 ^ 8) % 256 = c ∧ (c ^^^ x * 2 ^ 8) / 256 = x := by
  have e1 : (c ^^^ x * 2 ^ 8) % 2 ^ 8 = c := by
    rw [Nat.xor_mod_two_pow]; rw [Nat.mul_mod_left]; simp; omega
  have e2 : (c ^^^ x * 2 ^ 8) / 2 ^ 8 = x := by
    rw [Nat.xor_div_two_pow, Nat.mul_div_cancel _ (by decide), show c / 2 ^ 8 = 0 from by omega, Nat.zero_xor]
  exact ⟨e1, e2⟩

theorem leN_inj (l t : List Nat) (hl : ∀ c ∈ l, c < 256) (ht : ∀ c ∈ t, c < 256) (hn : l.length = t.length) (h : leN l = leN t) : l = t := by
  induction l generalizing t with
  | nil => cases t with
    | nil => rfl
    | cons _ _ => simp at hn
  | cons a l ih => cases t with
    | nil => simp at hn
    | cons b t =>
      have ea := leN_lt8 a (leN l) (hl a (by simp))
      have eb := leN_lt8 b (leN t) (ht b (by simp))
      rw [leN, leN] at h
      rw [h] at ea
      have e1 : a = b := ea.1.symm.trans eb.1
      have e2 : leN l = leN t := ea.2.symm.trans eb.2
      rw [e1, ih t (fun c hc => hl c (by simp [hc])) (fun c hc => ht c (by simp [hc])) (by simpa using hn) e2]

theorem leN_set (l : List Nat) (j r c : Nat) (h : l[j]? = some c) : leN (l.set j (c ^^^ 2 ^ r)) = leN l ^^^ 2 ^ (8 * j + r) := by
  induction l generalizing j with
  | nil => simp at h
  | cons a l ih => cases j with
    | zero =>
      simp at h; subst h
      simp only [List.set_cons_zero, leN, Nat.mul_zero, Nat.zero_add]
      rw [Nat.xor_assoc, Nat.xor_comm (2 ^ r), ← Nat.xor_assoc]
    | succ j =>
      simp only [List.set_cons_succ, leN]
      simp at h
      rw [ih j h, Nat.xor_assoc]
      congr 1
      have e : 2 ^ (8 * (j + 1) + r) = 2 ^ (8 * j + r) * 2 ^ 8 := by rw [← Nat.pow_add]; congr 1; omega
      rw [e, xor_mul_pow]

/-- what was turned within 32 bits side by side has another sum -/
theorem crc_turned (n m f : Nat) (l t : List Nat) (hl : ∀ c ∈ l, c < 256) (ht : ∀ c ∈ t, c < 256) (hn : l.length = t.length)
    (hm : m < 2 ^ 32) (hf : f ≤ 8 * l.length) (hx : leN l ^^^ leN t = m * 2 ^ f) (h : crc n l = crc n t) : l = t := by
  rw [← crc_halves, ← crc_halves, ← hn] at h
  have h1 : halves (8 * l.length) (m * 2 ^ f) = 0 := by
    rw [← hx, halves_xor]
    rw [halves_xor, halves_xor] at h
    have := xor_cancel _ _ _ h
    rw [this, Nat.xor_self]
  rw [show 8 * l.length = f + (8 * l.length - f) from by omega, halves_add, halves_pow] at h1
  have := halves_zero _ m hm h1
  subst this
  apply leN_inj l t hl ht hn
  exact xor_zero_eq _ _ (by simpa using hx)

theorem xor64 (a b : Nat) (ha : a < 9223372036854775808) (hb : b < 9223372036854775808) : bits .xor .i64 (a : Int) (b : Int) = ((a ^^^ b : Nat) : Int) := by
  show IntKind.i64.wrap ((BitVec.ofInt 64 (a : Int) ^^^ BitVec.ofInt 64 (b : Int)).toNat : Int) = _
  rw [BitVec.toNat_xor, ofInt_u64 a (by omega), ofInt_u64 b (by omega), IntKind.wrap_i64]
  have : a ^^^ b < 2 ^ 63 := Nat.xor_lt_two_pow (by omega) (by omega)
  omega

theorem halves_succ (m n : Nat) : halves (m + 1) n = halve (halves m n) := by
  rw [halves_add]; rfl

/-- all bits turned -/
def start : Nat := 4294967295
/-- the number of a text's sum -/
def num (l : List UInt8) : Nat := crc start (l.map UInt8.toNat) ^^^ start
/-- the four bytes of a number -/
def four (n : Nat) : List UInt8 := [UInt8.ofNat n, UInt8.ofNat (n / 256), UInt8.ofNat (n / 65536), UInt8.ofNat (n / 16777216)]
/-- the bytes of a text's sum -/
def sum (l : List UInt8) : List UInt8 := four (num l)

theorem crc_lt (n : Nat) (l : List Nat) (h : n < 2 ^ 32) (hl : ∀ c ∈ l, c < 256) : crc n l < 2 ^ 32 := by
  induction l generalizing n with
  | nil => exact h
  | cons c t ih =>
    have hc : n ^^^ c < 2 ^ 32 := Nat.xor_lt_two_pow h (by have := hl c (by simp); omega)
    exact ih _ (halves_lt 8 _ hc) (fun x hx => hl x (by simp [hx]))
theorem bytes_lt (l : List UInt8) : ∀ c ∈ l.map UInt8.toNat, c < 256 := by
  intro c hc
  obtain ⟨b, _, rfl⟩ := List.mem_map.1 hc
  exact b.toNat_lt
theorem num_lt (l : List UInt8) : num l < 2 ^ 32 := Nat.xor_lt_two_pow (crc_lt _ _ (by decide) (bytes_lt l)) (by decide)
theorem crc_snoc (n : Nat) (l : List Nat) (c : Nat) : crc n (l ++ [c]) = halves 8 (crc n l ^^^ c) := by
  unfold crc; rw [List.foldl_append]; rfl

theorem four_inj (a b : Nat) (ha : a < 2 ^ 32) (hb : b < 2 ^ 32) (h : four a = four b) : a = b := by
  simp only [four, List.cons.injEq, and_true] at h
  obtain ⟨h0, h1, h2, h3⟩ := h
  have e : ∀ x y : Nat, UInt8.ofNat x = UInt8.ofNat y → x % 256 = y % 256 := fun x y h => by
    have := congrArg UInt8.toNat h
    simpa using this
  have g0 := e _ _ h0
  have g1 := e _ _ h1
  have g2 := e _ _ h2
  have g3 := e _ _ h3
  omega

/-- a text of which some of 32 bits side by side are turned has another sum -/
theorem sum_turned (l t : List UInt8) (m f : Nat) (hn : l.length = t.length) (hm : m < 2 ^ 32) (hf : f ≤ 8 * l.length)
    (hx : leN (l.map UInt8.toNat) ^^^ leN (t.map UInt8.toNat) = m * 2 ^ f) (h : sum l = sum t) : l = t := by
  have h1 : num l = num t := four_inj _ _ (num_lt l) (num_lt t) h
  unfold num at h1
  rw [Nat.xor_comm, Nat.xor_comm (crc start (t.map UInt8.toNat))] at h1
  have h2 := xor_cancel _ _ _ h1
  have h3 := crc_turned start m f (l.map UInt8.toNat) (t.map UInt8.toNat) (bytes_lt l) (bytes_lt t) (by simpa using hn) hm (by simpa using hf) hx h2
  have inj : ∀ (a b : List UInt8), a.map UInt8.toNat = b.map UInt8.toNat → a = b := by
    intro a
    induction a with
    | nil => intro b hb; cases b with
      | nil => rfl
      | cons _ _ => simp at hb
    | cons x a ih => intro b hb; cases b with
      | nil => simp at hb
      | cons y b =>
        simp only [List.map_cons, List.cons.injEq] at hb
        rw [UInt8.toNat_inj.1 hb.1, ih b hb.2]
  exact inj l t h3

theorem xor_mod_div (n k : Nat) : n % 2 ^ k ^^^ (n / 2 ^ k) * 2 ^ k = n := by
  apply Nat.eq_of_testBit_eq; intro i
  rw [Nat.testBit_xor, Nat.testBit_mod_two_pow, Nat.testBit_mul_two_pow, Nat.testBit_div_two_pow]
  by_cases h : i < k
  · have : ¬ k ≤ i := by omega
    simp [h, this]
  · have h2 : k ≤ i := by omega
    have e : i - k + k = i := by omega
    simp [h, h2, e]
/-- k halvings: what they make of the lowest k bits, ^ the others moved down -/
theorem halves_low (n k : Nat) : halves k n = n / 2 ^ k ^^^ halves k (n % 2 ^ k) := by
  conv => lhs; rw [← xor_mod_div n k, halves_xor, halves_pow]
  rw [Nat.xor_comm]
theorem halves_four (n : Nat) : halves 4 n = n / 16 ^^^ halves 4 (n % 16) := halves_low n 4
theorem halves_eight (n : Nat) : halves 8 n = halves 4 (halves 4 n) := halves_add 4 4 n
theorem xor32 (a b : Nat) (ha : a < 4294967296) (hb : b < 4294967296) : bits .xor .u32 (a : Int) (b : Int) = ((a ^^^ b : Nat) : Int) := u32_xor_nat a b ha hb
theorem and15 (a : Nat) (ha : a < 4294967296) : bits .and .u32 (a : Int) 15 = ((a % 16 : Nat) : Int) := by
  rw [show (15 : Int) = ((15 : Nat) : Int) from rfl, u32_and_nat a 15 ha (by decide), nat_mask4]
end Go.Proofs.YtgllfcoafgphbaaGreatDoor.Crc

/-
  Chapter 3's bytes in plain words of lists: what Encode answers. Nothing of the program.
-/
namespace Go.Proofs.YtgllfcoafgphbaaGreatDoor
/-- a page: its length, what it has, its sum -/
def page (s : List UInt8) : List UInt8 := vb s.length ++ (s ++ Crc.sum s)
/-- all texts of rows, each once, rising -/
def allT (rows : List (List (List UInt8))) : List (List UInt8) := (sortU (rows.flatten.map fun t => [t])).map fun r => r.headD []
/-- how the numbers of a column's texts go up and down -/
def colF (all : List (List UInt8)) (c : Nat) : Int → List (List (List UInt8)) → List UInt8
  | _, [] => []
  | last, r :: rest => vb (fold (find all (r.getD c []) - last)).toNat ++ colF all c (find all (r.getD c [])) rest
/-- the first page -/
def headT (name : List UInt8) (ar n : Nat) : List UInt8 := vb name.length ++ (name ++ (vb ar ++ vb n))
def colsF (all : List (List UInt8)) (rows : List (List (List UInt8))) (n : Nat) : List UInt8 := ((List.range n).map fun c => page (colF all c 0 rows)).flatten
def bodyP (name : List UInt8) (ar : Nat) (rows : List (List (List UInt8))) : List UInt8 :=
  [82, 69, 76, 49] ++ (page (headT name ar rows.length) ++ (page (build (allT rows)).1 ++ colsF (allT rows) rows ar))
def packF (name : List UInt8) (ar : Nat) (rows : List (List (List UInt8))) : List UInt8 := bodyP name ar rows ++ Crc.sum (bodyP name ar rows)
/-- C2 -/
def encode (name : List UInt8) (ar : Int) (rows : List (List (List UInt8))) : List UInt8 × Nat × Nat :=
  match tidy name ar rows with
  | (0, _, L) => if 65536 < (packF name ar.toNat L).length then ([], 1, 0) else (packF name ar.toNat L, 0, 0)
  | (e + 1, i, _) => ([], e + 1, i)
theorem colsF_succ (all : List (List UInt8)) (rows : List (List (List UInt8))) (n : Nat) : colsF all rows (n + 1) = colsF all rows n ++ page (colF all n 0 rows) := by
  unfold colsF
  rw [List.range_succ, List.map_append, List.flatten_append]; simp
end Go.Proofs.YtgllfcoafgphbaaGreatDoor

/-
  The document's Tidy, walked.
-/
namespace Go.Proofs.YtgllfcoafgphbaaGreatDoor
open Go.ChangeShapes Go.WideShapes Go.ChangeAt Go.RowKit
set_option linter.unusedVariables false
/-- what Tidy leaves -/
def Tidied (base : Nat) (w : World) (name : ByteArray) (ar : Int) (t : Nat × Nat × List (List (List UInt8))) (e : Ending) (w' : World) : Prop :=
  if t.1 = 0 then ∃ v vs, e = .returned (.tuple #[.agg #[.string name, .int .i64 ar, v], .int .i64 0, .int .i64 0]) ∧ w'.ownsRow base 58 1 v vs.length vs ∧ vs.length = t.2.2.length ∧ ∀ (i : Nat) (x : Value) (r : List (List UInt8)), vs[i]? = some x → t.2.2[i]? = some r → Strs w x r
  else e = .returned (.tuple #[.agg #[.string { data := #[] }, .int .i64 0, .slice none 0 0], .int .i64 (t.1 : Nat), .int .i64 (t.2.1 : Nat)])
theorem tidied_bad {base : Nat} {w : World} {name : ByteArray} {ar : Int} {t : Nat × Nat × List (List (List UInt8))} {w' : World} {a b : Int} (e i : Nat) (l : List (List (List UInt8))) (h : t = (e, i, l)) (he : e ≠ 0) (ha : a = e) (hb : b = i) :
    Tidied base w name ar t (.returned (.tuple #[.agg #[.string { data := #[] }, .int .i64 0, .slice none 0 0], .int .i64 a, .int .i64 b])) w' := by
  subst h ha hb; unfold Tidied; rw [if_neg he]
theorem ins_length (L : List (List (List UInt8))) (r : List (List UInt8)) : (ins L r).length ≤ L.length + 1 := by
  unfold ins; split
  · omega
  · simp; omega
theorem foldl_len (rows L : List (List (List UInt8))) : (rows.foldl ins L).length ≤ L.length + rows.length := by
  induction rows generalizing L with
  | nil => simp
  | cons r rest ih =>
    have h1 := ih (ins L r)
    have h2 := ins_length L r
    simp only [List.foldl_cons, List.length_cons]; omega
theorem sortU_len (rows : List (List (List UInt8))) : (sortU rows).length ≤ rows.length := by
  have := foldl_len rows []
  simpa [sortU] using this
theorem own_base {w : World} {base base2 : Nat} {e : TypeId} {size : Nat} {v : Value} {n : Nat} {xs : List Value} (h : w.ownsRow base e size v n xs) (hb : base2 ≤ base) : w.ownsRow base2 e size v n xs := by
  refine ⟨h.1, ?_⟩
  rcases h.2 with h2 | ⟨g, cap, cur, h1, hg, r⟩
  · exact Or.inl h2
  · exact Or.inr ⟨g, cap, cur, h1, by omega, r⟩
theorem insV_fits {w : World} {us : List Value} {K : List (List (List UInt8))} {r : List (List UInt8)} {x : Value} (h : us.length = K.length ∧ ∀ (i : Nat) (y : Value) (q : List (List UInt8)), us[i]? = some y → K[i]? = some q → Strs w y q) (hx : Strs w x r) :
    (insV us K r x).length = (ins K r).length ∧ ∀ (i : Nat) (y : Value) (q : List (List UInt8)), (insV us K r x)[i]? = some y → (ins K r)[i]? = some q → Strs w y q := by
  unfold insV ins
  by_cases hm : r ∈ K
  · rw [if_pos hm, if_pos hm]; exact h
  · rw [if_neg hm, if_neg hm]
    have ha := ahead_le K r
    generalize ahead K r = a at *
    have l1 : (us.take a).length = a := by simp; omega
    have l2 : (K.take a).length = a := by simp; omega
    refine ⟨by simp; omega, fun i y q hy hq => ?_⟩
    rcases Nat.lt_trichotomy i a with c | c | c
    · rw [List.getElem?_append_left (by omega), List.getElem?_take_of_lt c] at hy hq
      exact h.2 i y q hy hq
    · subst c
      rw [List.getElem?_append_right (by omega)] at hy hq
      rw [l1, Nat.sub_self] at hy
      rw [l2, Nat.sub_self] at hq
      simp at hy hq
      subst hy hq
      exact hx
    · rw [List.getElem?_append_right (by omega)] at hy hq
      rw [l1] at hy
      rw [l2] at hq
      obtain ⟨d, hd⟩ : ∃ d, i - a = d + 1 := ⟨i - a - 1, by omega⟩
      rw [hd, List.getElem?_cons_succ, List.getElem?_drop] at hy hq
      exact h.2 (a + d) y q hy hq
end Go.Proofs.YtgllfcoafgphbaaGreatDoor

/-
  Rows of one's own; 'rowsOf', 'sameRows', 'spoil', walked.
-/
namespace Go.Proofs.YtgllfcoafgphbaaGreatDoor
open Go.ChangeShapes Go.WideShapes Go.ChangeAt Go.RowKit
set_option linter.unusedVariables false
/-- rows in memory of one's own, the inner lists too -/
def Deep (base : Nat) (w : World) (v : Value) (vs : List Value) (L : List (List (List UInt8))) : Prop :=
  w.ownsRow base 58 1 v vs.length vs ∧ vs.length = L.length ∧ ∀ (i : Nat) (x : Value) (r : List (List UInt8)), vs[i]? = some x → L[i]? = some r → w.ownsRow base 9 1 x r.length (ts r)
theorem own_below {w w' : World} {base : Nat} {e : TypeId} {size : Nat} {v : Value} {n : Nat} {xs : List Value} (h : w.ownsRow base e size v n xs) (hb : Below w.heap.size w w') : w'.ownsRow base e size v n xs := by
  refine h.kept (row := none) ⟨hb.os, hb.tape, hb.output, hb.size, fun k hk _ => hb.block k hk⟩ ?_
  cases v.ownBlock with
  | none => exact Or.inl rfl
  | some g => exact Or.inr (by simp)
theorem own_mono {w : World} {b b' : Nat} {e : TypeId} {size : Nat} {v : Value} {n : Nat} {xs : List Value} (h : w.ownsRow b e size v n xs) (hb : b' ≤ b) : w.ownsRow b' e size v n xs := by
  obtain ⟨hl, h0 | ⟨g, cap, cur, hv, hg, r⟩⟩ := h
  · exact ⟨hl, Or.inl h0⟩
  · exact ⟨hl, Or.inr ⟨g, cap, cur, hv, Nat.le_trans hb hg, r⟩⟩
theorem kind_ne {w : World} {b1 b2 n1 n2 : Nat} {e1 e2 : TypeId} {v1 v2 : Value} {xs ys : List Value} (h1 : w.ownsRow b1 e1 1 v1 n1 xs) (h2 : w.ownsRow b2 e2 1 v2 n2 ys) (he : e1 ≠ e2) : v1.ownBlock = none ∨ v1.ownBlock ≠ v2.ownBlock := by
  cases h : v1.ownBlock with
  | none => exact Or.inl rfl
  | some g =>
    right
    intro h3
    obtain ⟨c1, f1, k1⟩ := Lib.ownsRow_kind h1 g h
    obtain ⟨c2, f2, k2⟩ := Lib.ownsRow_kind h2 g h3.symm
    rw [k1] at k2
    cases k2
    exact he rfl
theorem Deep.rows {base : Nat} {w : World} {v : Value} {vs : List Value} {L : List (List (List UInt8))} (h : Deep base w v vs L) : Rows2 w v vs L :=
  ⟨own_vals h.1, h.2.1, fun i x r hx hr => own_strs (h.2.2 i x r hx hr)⟩
theorem Deep.kept {base : Nat} {w w' : World} {v : Value} {vs : List Value} {L : List (List (List UInt8))} (h : Deep base w v vs L) (hb : Below w.heap.size w w') : Deep base w' v vs L :=
  ⟨own_below h.1 hb, h.2.1, fun i x r hx hr => own_below (h.2.2 i x r hx hr) hb⟩
theorem Rows2.kept {w w' : World} {v : Value} {vs : List Value} {L : List (List (List UInt8))} (h : Rows2 w v vs L) (hb : Below w.heap.size w w') : Rows2 w' v vs L := by
  obtain ⟨⟨a, cap, hv, hc⟩, hl, hi⟩ := h
  refine ⟨⟨a, cap, hv, ?_⟩, hl, fun i x r hx hr => (hi i x r hx hr).kept hb⟩
  rcases hc with hc | ⟨b, off, ha, hc⟩
  · exact Or.inl hc
  · refine Or.inr ⟨b, off, ha, fun i x hx => ?_⟩
    rw [hb.cell (p := ⟨b, off + i, none⟩) (World.block_lt_of_cell? w ⟨b, off + i, none⟩ (hc i x hx))]; exact hc i x hx
end Go.Proofs.YtgllfcoafgphbaaGreatDoor

/-
  The document's sum, walked.
-/
namespace Go.Proofs.YtgllfcoafgphbaaGreatDoor
open Go.ChangeShapes Go.WideShapes Go.ChangeAt Go.RowKit
set_option linter.unusedVariables false
theorem xor_turn (y : Nat) (hy : y < 4294967296) : bits .xor .i64 ((y : Int) / 2) 3988292384 = ((y / 2 ^^^ 3988292384 : Nat) : Int) := by
  rw [show (y : Int) / 2 = ((y / 2 : Nat) : Int) from by omega, show (3988292384 : Int) = ((3988292384 : Nat) : Int) from rfl, Crc.xor64 _ _ (by omega) (by omega)]
theorem xor_all (y : Nat) (hy : y < 4294967296) : bits .xor .i64 (y : Int) 4294967295 = ((y ^^^ 4294967295 : Nat) : Int) := by
  rw [show (4294967295 : Int) = ((4294967295 : Nat) : Int) from rfl, Crc.xor64 _ _ (by omega) (by omega)]
theorem take_snoc (s : ByteArray) (k : Nat) (h : k < s.size) : s.data.toList.take (k + 1) = s.data.toList.take k ++ [s[k]] := by
  rw [List.take_succ_eq_append_getElem (by simpa using h)]; rfl
theorem ofNat_mod (n : Nat) : UInt8.ofNat (n % 256) = UInt8.ofNat n := by apply UInt8.toNat_inj.1; simp
theorem four_mod (n : Nat) : [UInt8.ofNat (n % 256), UInt8.ofNat (n / 256 % 256), UInt8.ofNat (n / 65536 % 256), UInt8.ofNat (n / 16777216)] = Crc.four n := by
  unfold Crc.four; rw [ofNat_mod, ofNat_mod, ofNat_mod]
theorem four_lit (W : World) (a b c d : Int) : Sem.run Tryz.prog (convert 212 9 (.slice (some ⟨W.heap.size, 0, none⟩) 4 4)) (W.alloc (.cells #[.int .u8 a, .int .u8 b, .int .u8 c, .int .u8 d] 5)) = .ok (.string (str [UInt8.ofNat a.toNat, UInt8.ofNat b.toNat, UInt8.ofNat c.toNat, UInt8.ofNat d.toNat])) (W.alloc (.cells #[.int .u8 a, .int .u8 b, .int .u8 c, .int .u8 d] 5)) :=
  lit_string W [a, b, c, d]
end Go.Proofs.YtgllfcoafgphbaaGreatDoor

/-
  The document's Varint, walked.
-/
namespace Go.Proofs.YtgllfcoafgphbaaGreatDoor
open Go.ChangeShapes Go.WideShapes Go.ChangeAt Go.RowKit
set_option linter.unusedVariables false
theorem one_byte (W : World) (x : Int) : Sem.run Tryz.prog (convert 212 9 (.slice (some ⟨W.heap.size, 0, none⟩) 1 1)) (W.alloc (.cells #[.int .u8 x] 5)) = .ok (.string (str [UInt8.ofNat x.toNat])) (W.alloc (.cells #[.int .u8 x] 5)) := by
  have h := run_convert_bytes_arg (P := Tryz.prog) (W.alloc (.cells #[.int .u8 x] 5)) 212 5 Tryz.underlying212 Tryz.underlying5 W.heap.size 0 1 1 [x] rfl (fun i hi => by
    obtain rfl : i = 0 := by omega
    simp) 9 Tryz.underlying9
  exact h
end Go.Proofs.YtgllfcoafgphbaaGreatDoor

/-
  The document's page and texts, walked.
-/
namespace Go.Proofs.YtgllfcoafgphbaaGreatDoor
open Go.ChangeShapes Go.WideShapes Go.ChangeAt Go.RowKit
set_option linter.unusedVariables false
theorem sum_len (l : List UInt8) : (Crc.sum l).length = 4 := rfl
theorem insV_all {us : List Value} {K : List (List (List UInt8))} {r : List (List UInt8)} {x : Value} (Φ : Value → List (List UInt8) → Prop) (h : us.length = K.length ∧ ∀ (i : Nat) (y : Value) (q : List (List UInt8)), us[i]? = some y → K[i]? = some q → Φ y q) (hx : Φ x r) :
    (insV us K r x).length = (ins K r).length ∧ ∀ (i : Nat) (y : Value) (q : List (List UInt8)), (insV us K r x)[i]? = some y → (ins K r)[i]? = some q → Φ y q := by
  unfold insV ins
  by_cases hm : r ∈ K
  · rw [if_pos hm, if_pos hm]; exact h
  · rw [if_neg hm, if_neg hm]
    have ha := ahead_le K r
    generalize ahead K r = a at *
    have l1 : (us.take a).length = a := by simp; omega
    have l2 : (K.take a).length = a := by simp; omega
    refine ⟨by simp; omega, fun i y q hy hq => ?_⟩
    rcases Nat.lt_trichotomy i a with c | c | c
    · rw [List.getElem?_append_left (by omega), List.getElem?_take_of_lt c] at hy hq
      exact h.2 i y q hy hq
    · subst c
      rw [List.getElem?_append_right (by omega)] at hy hq
      rw [l1, Nat.sub_self] at hy
      rw [l2, Nat.sub_self] at hq
      simp at hy hq
      subst hy hq
      exact hx
    · rw [List.getElem?_append_right (by omega)] at hy hq
      rw [l1] at hy
      rw [l2] at hq
      obtain ⟨d, hd⟩ : ∃ d, i - a = d + 1 := ⟨i - a - 1, by omega⟩
      rw [hd, List.getElem?_cons_succ, List.getElem?_drop] at hy hq
      exact h.2 (a + d) y q hy hq
theorem ownShape {w : World} {base : Nat} {e : TypeId} {size : Nat} {v : Value} {n : Nat} {xs : List Value} (h : w.ownsRow base e size v n xs) : ∃ a c, v = .slice a n c := by
  rcases h.2 with ⟨rfl, h0⟩ | ⟨g, cap, cur, rfl, _⟩
  · exact ⟨none, 0, by rw [h0]⟩
  · exact ⟨_, cap, rfl⟩
/-- the rows of one text each that stand in l -/
def kOf (ts : List (List UInt8)) : List (List (List UInt8)) := (ts.map fun t => [t]).foldl ins []
theorem kOf_snoc (l : List (List UInt8)) (t : List UInt8) : kOf (l ++ [t]) = ins (kOf l) [t] := by unfold kOf; simp [List.foldl_append]
theorem kOf_rises (l : List (List UInt8)) : Rises 1 (kOf l) := sortU_rises 1 _ (fun r hr => by obtain ⟨t, _, rfl⟩ := List.mem_map.1 hr; rfl)
theorem kOf_len (l : List (List UInt8)) : (kOf l).length ≤ l.length := by
  have := sortU_len (l.map fun t => [t])
  simpa [kOf, sortU] using this
theorem kOf_one (l : List (List UInt8)) (i : Nat) (r : List (List UInt8)) (h : (kOf l)[i]? = some r) : ∃ t, r = [t] := by
  have := (kOf_rises l).1 r (List.mem_of_getElem? h)
  match r, this with
  | [t], _ => exact ⟨t, rfl⟩
theorem heads_next (K : List (List (List UInt8))) (k : Nat) (t : List UInt8) (h : K[k]? = some [t]) : ((K.take (k + 1)).map fun r => r.headD []) = ((K.take k).map fun r => r.headD []) ++ [t] := by
  have hk : k < K.length := (List.getElem?_eq_some_iff.1 h).1
  rw [List.take_succ_eq_append_getElem hk, List.map_append]
  have : K[k] = [t] := by rw [List.getElem?_eq_getElem hk] at h; exact Option.some.inj h
  simp [this]
end Go.Proofs.YtgllfcoafgphbaaGreatDoor
