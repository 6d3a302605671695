/-
  A3 in plain words of numbers: a sum is linear but for a constant, and what was turned within 32 bits side by side is another number.
-/
import Derived.Laws.BitsAllLaws
import Derived.Laws.BitsLemmas
namespace Go.Proofs.YtnnldpccagajbaaDoor.Crc
def halve (n : Nat) : Nat := n / 2 ^^^ (if n % 2 = 1 then 3988292384 else 0)
def halves : Nat → Nat → Nat
  | 0, n => n
  | k + 1, n => halves k (halve n)

theorem xor_mod2 (a b : Nat) : (a ^^^ b) % 2 = (a % 2 + b % 2) % 2 := by
  have h := Nat.xor_mod_two_pow (a := a) (b := b) (n := 1)
  rw [Nat.pow_one] at h
  rw [h]
  rcases Nat.mod_two_eq_zero_or_one a with h | h <;> rcases Nat.mod_two_eq_zero_or_one b with g | g <;> simp [h, g]

theorem xor_cancel (a b c : Nat) (h : a ^^^ b = a ^^^ c) : b = c := by
  have e : a ^^^ (a ^^^ b) = a ^^^ (a ^^^ c) := by rw [h]
  rwa [← Nat.xor_assoc, ← Nat.xor_assoc, Nat.xor_self, Nat.zero_xor, Nat.zero_xor] at e

theorem xor_zero_eq (a b : Nat) (h : a ^^^ b = 0) : a = b := by
  exact (xor_cancel a b a (by rw [h, Nat.xor_self])).symm

theorem xor_mul_pow (a b k : Nat) : (a ^^^ b) * 2 ^ k = a * 2 ^ k ^^^ b * 2 ^ k := by
  apply Nat.eq_of_testBit_eq; intro i
  simp only [Nat.testBit_mul_two_pow, Nat.testBit_xor]
  cases decide (k ≤ i) <;> simp

theorem xor_div2 (a b : Nat) : (a ^^^ b) / 2 = a / 2 ^^^ b / 2 := by
  apply Nat.eq_of_testBit_eq; intro i
  simp [Nat.testBit_div_two, Nat.testBit_xor]

theorem xor_swap4 (a b c d : Nat) : (a ^^^ b) ^^^ (c ^^^ d) = (a ^^^ c) ^^^ (b ^^^ d) := by
  rw [Nat.xor_assoc, Nat.xor_assoc, ← Nat.xor_assoc b, ← Nat.xor_assoc c, Nat.xor_comm b c]

theorem halve_xor (a b : Nat) : halve (a ^^^ b) = halve a ^^^ halve b := by
  unfold halve
  rw [xor_div2, xor_mod2, xor_swap4]
  congr 1
  rcases Nat.mod_two_eq_zero_or_one a with h | h <;> rcases Nat.mod_two_eq_zero_or_one b with g | g <;> simp [h, g]

theorem halve_two (n : Nat) : halve (2 * n) = n := by
  unfold halve
  simp

theorem halve_lt (n : Nat) (h : n < 2 ^ 32) : halve n < 2 ^ 32 := by
  unfold halve
  apply Nat.xor_lt_two_pow
  · omega
  · split <;> decide

theorem halve_zero (n : Nat) (h : n < 2 ^ 32) (h0 : halve n = 0) : n = 0 := by
  unfold halve at h0
  by_cases o : n % 2 = 1
  · rw [if_pos o] at h0
    have := xor_zero_eq _ _ h0
    omega
  · rw [if_neg o] at h0
    simp at h0
    omega

theorem halves_xor (k a b : Nat) : halves k (a ^^^ b) = halves k a ^^^ halves k b := by
  induction k generalizing a b with
  | zero => rfl
  | succ k ih => simp only [halves]; rw [halve_xor, ih]

theorem halves_add (j k n : Nat) : halves (j + k) n = halves k (halves j n) := by
  induction j generalizing n with
  | zero => simp [halves]
  | succ j ih => rw [Nat.succ_add]; simp only [halves]; rw [ih]

theorem halves_pow (k m : Nat) : halves k (m * 2 ^ k) = m := by
  induction k with
  | zero => simp [halves]
  | succ k ih =>
    simp only [halves]
    rw [Nat.pow_succ, show m * (2 ^ k * 2) = 2 * (m * 2 ^ k) from by rw [Nat.mul_comm (2 ^ k) 2]; rw [Nat.mul_left_comm], halve_two, ih]

theorem halves_lt (k n : Nat) (h : n < 2 ^ 32) : halves k n < 2 ^ 32 := by
  induction k generalizing n with
  | zero => exact h
  | succ k ih => exact ih _ (halve_lt n h)

theorem halves_zero (k n : Nat) (h : n < 2 ^ 32) (h0 : halves k n = 0) : n = 0 := by
  induction k generalizing n with
  | zero => exact h0
  | succ k ih => exact halve_zero n h (ih _ (halve_lt n h) h0)

/-- one byte -/
def step (n c : Nat) : Nat := halves 8 (n ^^^ c)
def crc (n : Nat) (l : List Nat) : Nat := l.foldl step n
def leN : List Nat → Nat
  | [] => 0
  | c :: t => c ^^^ leN t * 2 ^ 8

theorem crc_halves (l : List Nat) (n : Nat) : halves (8 * l.length) (n ^^^ leN l) = crc n l := by
  induction l generalizing n with
  | nil => simp [halves, leN, crc]
  | cons c t ih =>
    rw [List.length_cons, show 8 * (t.length + 1) = 8 + 8 * t.length from by omega, halves_add]
    rw [leN, ← Nat.xor_assoc, halves_xor 8, halves_pow, ih]
    rfl

theorem leN_lt8 (c x : Nat) (h : c < 256) : (c ^^^ x * 2 ^ 8) % 256 = c ∧ (c ^^^ x * 2 ^ 8) / 256 = x := by
  have e1 : (c ^^^ x * 2 ^ 8) % 2 ^ 8 = c := by
    rw [Nat.xor_mod_two_pow]; rw [Nat.mul_mod_left]; simp; omega
  have e2 : (c ^^^ x * 2 ^ 8) / 2 ^ 8 = x := by
    rw [Nat.xor_div_two_pow, Nat.mul_div_cancel _ (by decide), show c / 2 ^ 8 = 0 from by omega, Nat.zero_xor]
  exact ⟨e1, e2⟩

theorem leN_inj (l t : List Nat) (hl : ∀ c ∈ l, c < 256) (ht : ∀ c ∈ t, c < 256) (hn : l.length = t.length) (h : leN l = leN t) : l = t := by
  induction l generalizing t with
  | nil => cases t with
    | nil => rfl
    | cons _ _ => simp at hn
  | cons a l ih => cases t with
    | nil => simp at hn
    | cons b t =>
      have ea := leN_lt8 a (leN l) (hl a (by simp))
      have eb := leN_lt8 b (leN t) (ht b (by simp))
      rw [leN, leN] at h
      rw [h] at ea
      have e1 : a = b := ea.1.symm.trans eb.1
      have e2 : leN l = leN t := ea.2.symm.trans eb.2
      rw [e1, ih t (fun c hc => hl c (by simp [hc])) (fun c hc => ht c (by simp [hc])) (by simpa using hn) e2]

theorem leN_set (l : List Nat) (j r c : Nat) (h : l[j]? = some c) : leN (l.set j (c ^^^ 2 ^ r)) = leN l ^^^ 2 ^ (8 * j + r) := by
  induction l generalizing j with
  | nil => simp at h
  | cons a l ih => cases j with
    | zero =>
      simp at h; subst h
      simp only [List.set_cons_zero, leN, Nat.mul_zero, Nat.zero_add]
      rw [Nat.xor_assoc, Nat.xor_comm (2 ^ r), ← Nat.xor_assoc]
    | succ j =>
      simp only [List.set_cons_succ, leN]
      simp at h
      rw [ih j h, Nat.xor_assoc]
      congr 1
      have e : 2 ^ (8 * (j + 1) + r) = 2 ^ (8 * j + r) * 2 ^ 8 := by rw [← Nat.pow_add]; congr 1; omega
      rw [e, xor_mul_pow]

/-- what was turned within 32 bits side by side has another sum -/
theorem crc_turned (n m f : Nat) (l t : List Nat) (hl : ∀ c ∈ l, c < 256) (ht : ∀ c ∈ t, c < 256) (hn : l.length = t.length)
    (hm : m < 2 ^ 32) (hf : f ≤ 8 * l.length) (hx : leN l ^^^ leN t = m * 2 ^ f) (h : crc n l = crc n t) : l = t := by
  rw [← crc_halves, ← crc_halves, ← hn] at h
  have h1 : halves (8 * l.length) (m * 2 ^ f) = 0 := by
    rw [← hx, halves_xor]
    rw [halves_xor, halves_xor] at h
    have := xor_cancel _ _ _ h
    rw [this, Nat.xor_self]
  rw [show 8 * l.length = f + (8 * l.length - f) from by omega, halves_add, halves_pow] at h1
  have := halves_zero _ m hm h1
  subst this
  apply leN_inj l t hl ht hn
  exact xor_zero_eq _ _ (by simpa using hx)

theorem xor64 (a b : Nat) (ha : a < 9223372036854775808) (hb : b < 9223372036854775808) : bits .xor .i64 (a : Int) (b : Int) = ((a ^^^ b : Nat) : Int) := by
  show IntKind.i64.wrap ((BitVec.ofInt 64 (a : Int) ^^^ BitVec.ofInt 64 (b : Int)).toNat : Int) = _
  rw [BitVec.toNat_xor, ofInt_u64 a (by omega), ofInt_u64 b (by omega), IntKind.wrap_i64]
  have : a ^^^ b < 2 ^ 63 := Nat.xor_lt_two_pow (by omega) (by omega)
  omega

theorem halves_succ (m n : Nat) : halves (m + 1) n = halve (halves m n) := by
  rw [halves_add]; rfl

/-- all bits turned -/
def start : Nat := 4294967295
/-- the number of a text's sum -/
def num (l : List UInt8) : Nat := crc start (l.map UInt8.toNat) ^^^ start
/-- the four bytes of a number -/
def four (n : Nat) : List UInt8 := [UInt8.ofNat n, UInt8.ofNat (n / 256), UInt8.ofNat (n / 65536), UInt8.ofNat (n / 16777216)]
/-- the bytes of a text's sum -/
def sum (l : List UInt8) : List UInt8 := four (num l)

theorem crc_lt (n : Nat) (l : List Nat) (h : n < 2 ^ 32) (hl : ∀ c ∈ l, c < 256) : crc n l < 2 ^ 32 := by
  induction l generalizing n with
  | nil => exact h
  | cons c t ih =>
    have hc : n ^^^ c < 2 ^ 32 := Nat.xor_lt_two_pow h (by have := hl c (by simp); omega)
    exact ih _ (halves_lt 8 _ hc) (fun x hx => hl x (by simp [hx]))
theorem bytes_lt (l : List UInt8) : ∀ c ∈ l.map UInt8.toNat, c < 256 := by
  intro c hc
  obtain ⟨b, _, rfl⟩ := List.mem_map.1 hc
  exact b.toNat_lt
theorem num_lt (l : List UInt8) : num l < 2 ^ 32 := Nat.xor_lt_two_pow (crc_lt _ _ (by decide) (bytes_lt l)) (by decide)
theorem crc_snoc (n : Nat) (l : List Nat) (c : Nat) : crc n (l ++ [c]) = halves 8 (crc n l ^^^ c) := by
  unfold crc; rw [List.foldl_append]; rfl

theorem four_inj (a b : Nat) (ha : a < 2 ^ 32) (hb : b < 2 ^ 32) (h : four a = four b) : a = b := by
  simp only [four, List.cons.injEq, and_true] at h
  obtain ⟨h0, h1, h2, h3⟩ := h
  have e : ∀ x y : Nat, UInt8.ofNat x = UInt8.ofNat y → x % 256 = y % 256 := fun x y h => by
    have := congrArg UInt8.toNat h
    simpa using this
  have g0 := e _ _ h0
  have g1 := e _ _ h1
  have g2 := e _ _ h2
  have g3 := e _ _ h3
  omega

/-- a text of which some of 32 bits side by side are turned has another sum -/
theorem sum_turned (l t : List UInt8) (m f : Nat) (hn : l.length = t.length) (hm : m < 2 ^ 32) (hf : f ≤ 8 * l.length)
    (hx : leN (l.map UInt8.toNat) ^^^ leN (t.map UInt8.toNat) = m * 2 ^ f) (h : sum l = sum t) : l = t := by
  have h1 : num l = num t := four_inj _ _ (num_lt l) (num_lt t) h
  unfold num at h1
  rw [Nat.xor_comm, Nat.xor_comm (crc start (t.map UInt8.toNat))] at h1
  have h2 := xor_cancel _ _ _ h1
  have h3 := crc_turned start m f (l.map UInt8.toNat) (t.map UInt8.toNat) (bytes_lt l) (bytes_lt t) (by simpa using hn) hm (by simpa using hf) hx h2
  have inj : ∀ (a b : List UInt8), a.map UInt8.toNat = b.map UInt8.toNat → a = b := by
    intro a
    induction a with
    | nil => intro b hb; cases b with
      | nil => rfl
      | cons _ _ => simp at hb
    | cons x a ih => intro b hb; cases b with
      | nil => simp at hb
      | cons y b =>
        simp only [List.map_cons, List.cons.injEq] at hb
        rw [UInt8.toNat_inj.1 hb.1, ih b hb.2]
  exact inj l t h3

theorem xor_mod_div (n k : Nat) : n % 2 ^ k ^^^ (n / 2 ^ k) * 2 ^ k = n := by
  apply Nat.eq_of_testBit_eq; intro i
  rw [Nat.testBit_xor, Nat.testBit_mod_two_pow, Nat.testBit_mul_two_pow, Nat.testBit_div_two_pow]
  by_cases h : i < k
  · have : ¬ k ≤ i := by omega
    simp [h, this]
  · have h2 : k ≤ i := by omega
    have e : i - k + k = i := by omega
    simp [h, h2, e]
/-- k halvings: what they make of the lowest k bits, ^ the others moved down -/
theorem halves_low (n k : Nat) : halves k n = n / 2 ^ k ^^^ halves k (n % 2 ^ k) := by
  conv => lhs; rw [← xor_mod_div n k, halves_xor, halves_pow]
  rw [Nat.xor_comm]
theorem halves_four (n : Nat) : halves 4 n = n / 16 ^^^ halves 4 (n % 16) := halves_low n 4
theorem halves_eight (n : Nat) : halves 8 n = halves 4 (halves 4 n) := halves_add 4 4 n
theorem xor32 (a b : Nat) (ha : a < 4294967296) (hb : b < 4294967296) : bits .xor .u32 (a : Int) (b : Int) = ((a ^^^ b : Nat) : Int) := u32_xor_nat a b ha hb
theorem and15 (a : Nat) (ha : a < 4294967296) : bits .and .u32 (a : Int) 15 = ((a % 16 : Nat) : Int) := by
  rw [show (15 : Int) = ((15 : Nat) : Int) from rfl, u32_and_nat a 15 ha (by decide), nat_mask4]
end Go.Proofs.YtnnldpccagajbaaDoor.Crc
