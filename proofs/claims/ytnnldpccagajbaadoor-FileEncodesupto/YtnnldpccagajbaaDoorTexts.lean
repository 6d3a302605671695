/-
  Chapter 2 in plain words of lists: what Build answers, what Open reads. Nothing of the program.
-/
import Derived.Test.YtnnldpccagajbaaDoorVar
namespace Go.Proofs.YtnnldpccagajbaaDoor
/-- how many bytes at their beginnings are the same -/
def common : List UInt8 → List UInt8 → Nat
  | a :: x, b :: y => if a = b then common x y + 1 else 0
  | _, _ => 0
theorem common_le : ∀ a b : List UInt8, common a b ≤ a.length ∧ common a b ≤ b.length
  | [], _ => by simp [common]
  | _ :: _, [] => by simp [common]
  | x :: a, y :: b => by
    have := common_le a b
    unfold common; split <;> simp <;> omega
theorem common_take : ∀ a b : List UInt8, a.take (common a b) = b.take (common a b)
  | [], _ => by simp [common]
  | _ :: _, [] => by simp [common]
  | x :: a, y :: b => by
    have := common_take a b
    unfold common; split
    · rename_i h; subst h; simp [this]
    · simp
theorem common_join (a b : List UInt8) : a.take (common a b) ++ b.drop (common a b) = b := by
  rw [common_take, List.take_append_drop]

/-- does a text stand behind another one? (byte by byte) -/
def behind (a b : List UInt8) : Bool := Op.bytesLess a b

/-- what a text adds behind another one -/
def part (p t : List UInt8) : List UInt8 := vb (common p t) ++ (vb (t.length - common p t) ++ t.drop (common p t))
/-- may a text stand behind what is ahead of it? -/
def follows (p : Option (List UInt8)) (t : List UInt8) : Bool := match p with
  | none => true
  | some q => behind q t
/-- B1: from the i-th text on; p: the text ahead of it -/
def bld (i : Nat) (p : Option (List UInt8)) (out : List UInt8) : List (List UInt8) → List UInt8 × Nat × Nat
  | [] => (out, 0, 0)
  | t :: r => if 200 < t.length then ([], 1, i) else if follows p t then bld (i + 1) (some t) (out ++ part (p.getD []) t) r else ([], 6, i)
/-- B1 -/
def build (l : List (List UInt8)) : List UInt8 × Nat × Nat := bld 0 none (vb l.length) l
/-- the bytes behind the count -/
def enc (p : List UInt8) : List (List UInt8) → List UInt8
  | [] => []
  | t :: r => part p t ++ enc t r
/-- may texts follow one another, and are they short? -/
def good (p : Option (List UInt8)) : List (List UInt8) → Bool
  | [] => true
  | t :: r => decide (t.length ≤ 200) && follows p t && good (some t) r

theorem bld_long (i : Nat) (p : Option (List UInt8)) (out t : List UInt8) (r : List (List UInt8)) (h : 200 < t.length) : bld i p out (t :: r) = ([], 1, i) := by
  rw [bld, if_pos h]
theorem bld_order (i : Nat) (p : Option (List UInt8)) (out t : List UInt8) (r : List (List UInt8)) (h : t.length ≤ 200) (hf : follows p t = false) : bld i p out (t :: r) = ([], 6, i) := by
  rw [bld, if_neg (by omega), if_neg (by simp [hf])]
theorem bld_next (i : Nat) (p : Option (List UInt8)) (out t : List UInt8) (r : List (List UInt8)) (h : t.length ≤ 200) (hf : follows p t = true) : bld i p out (t :: r) = bld (i + 1) (some t) (out ++ part (p.getD []) t) r := by
  rw [bld, if_neg (by omega), if_pos hf]
theorem bld_good (l : List (List UInt8)) (i : Nat) (p : Option (List UInt8)) (out : List UInt8) (h : good p l = true) : bld i p out l = (out ++ enc (p.getD []) l, 0, 0) := by
  induction l generalizing i p out with
  | nil => simp [bld, enc]
  | cons t r ih =>
    simp only [good, Bool.and_eq_true, decide_eq_true_eq] at h
    obtain ⟨⟨h1, h2⟩, h3⟩ := h
    rw [bld_next i p out t r h1 h2, ih _ _ _ h3]
    simp [enc]
theorem bld_bad (l : List (List UInt8)) (i : Nat) (p : Option (List UInt8)) (out : List UInt8) (h : good p l = false) : (bld i p out l).2.1 = 1 ∨ (bld i p out l).2.1 = 6 := by
  induction l generalizing i p out with
  | nil => simp [good] at h
  | cons t r ih =>
    by_cases h1 : 200 < t.length
    · rw [bld_long i p out t r h1]; exact Or.inl rfl
    · have h1' : decide (t.length ≤ 200) = true := by simp; omega
      cases hf : follows p t with
      | true => rw [bld_next i p out t r (by omega) hf]; exact ih _ _ _ (by simpa [good, h1', hf] using h)
      | false => rw [bld_order i p out t r (by omega) hf]; exact Or.inr rfl
theorem build_ok (l : List (List UInt8)) : (build l).2.1 = 0 ↔ good none l = true := by
  cases h : good none l with
  | true => unfold build; rw [bld_good l _ _ _ h]; simp
  | false => have := bld_bad l 0 none (vb l.length) h; unfold build; simp; omega
theorem build_good (l : List (List UInt8)) (h : good none l = true) : build l = (vb l.length ++ enc [] l, 0, 0) := bld_good l 0 none _ h

/-- a number at the beginning, and what is behind it -/
def rd (d : List UInt8) : Option (Nat × List UInt8) := match uv 0 0 d with
  | none => none
  | some (n, k) => some (n, d.drop k)
theorem rd_vb (n : Nat) (h : n < 9223372036854775808) (d : List UInt8) : rd (vb n ++ d) = some (n, d) := by
  unfold rd; rw [uv_back n h]; simp
/-- texts read one behind the other -/
def parse : Nat → List UInt8 → List UInt8 → Option (List (List UInt8))
  | 0, _, _ => some []
  | n + 1, p, d => match rd d with
    | none => none
    | some (head, d1) => if p.length < head then none else match rd d1 with
      | none => none
      | some (rest, d2) => if d2.length < rest then none else match parse n (p.take head ++ d2.take rest) (d2.drop rest) with
        | none => none
        | some l => some ((p.take head ++ d2.take rest) :: l)
theorem parse_enc (l : List (List UInt8)) (p : List UInt8) (d : List UInt8) (h : ∀ t ∈ l, t.length < 9223372036854775808) : parse l.length p (enc p l ++ d) = some l := by
  induction l generalizing p with
  | nil => simp [parse]
  | cons t r ih =>
    have hc := common_le p t
    have ht := h t (by simp)
    rw [List.length_cons, parse, enc, part]
    have e1 : vb (common p t) ++ (vb (t.length - common p t) ++ t.drop (common p t)) ++ enc t r ++ d = vb (common p t) ++ (vb (t.length - common p t) ++ (t.drop (common p t) ++ (enc t r ++ d))) := by simp
    rw [e1, rd_vb _ (by omega)]
    simp only
    rw [if_neg (by omega), rd_vb _ (by omega)]
    simp only
    have hl : (t.drop (common p t)).length = t.length - common p t := by simp
    rw [if_neg (by rw [List.length_append, hl]; omega), List.take_left' hl, List.drop_left' hl, common_join, ih t (fun x hx => h x (by simp [hx]))]
/-- B2: the list, if there is one -/
def open_ (d : List UInt8) : Option (List (List UInt8)) := match rd d with
  | none => none
  | some (n, d1) => if d.length < n then none else match parse n [] d1 with
    | none => none
    | some l => if build l = (d, 0, 0) then some l else none
theorem vb_pos (n : Nat) : 0 < (vb n).length := by
  rw [vb]; split <;> simp
theorem enc_length (p : List UInt8) (l : List (List UInt8)) : l.length ≤ (enc p l).length := by
  induction l generalizing p with
  | nil => simp [enc]
  | cons t r ih =>
    have := ih t
    have := vb_pos (common p t)
    rw [enc, part]; simp; omega
theorem good_len (l : List (List UInt8)) (p : Option (List UInt8)) (h : good p l = true) : ∀ t ∈ l, t.length ≤ 200 := by
  induction l generalizing p with
  | nil => simp
  | cons t r ih =>
    simp only [good, Bool.and_eq_true, decide_eq_true_eq] at h
    intro x hx
    rcases List.mem_cons.1 hx with rfl | hx
    · exact h.1.1
    · exact ih _ h.2 x hx
/-- what Build answers is read as the list -/
theorem open_build (l : List (List UInt8)) (h : good none l = true) (hl : l.length < 9223372036854775808) : open_ (build l).1 = some l := by
  have hb := build_good l h
  rw [hb]
  simp only
  unfold open_
  rw [rd_vb _ hl]
  simp only
  have := enc_length [] l
  rw [if_neg (by rw [List.length_append]; omega)]
  have hp := parse_enc l [] [] (fun t ht => by have := good_len l none h t ht; omega)
  rw [List.append_nil] at hp
  rw [hp]
  simp only
  rw [if_pos hb]
theorem open_some (d : List UInt8) (l : List (List UInt8)) (h : open_ d = some l) : build l = (d, 0, 0) := by
  unfold open_ at h
  split at h
  · cases h
  · split at h
    · cases h
    · split at h
      · cases h
      · split at h
        · cases h; assumption
        · cases h
/-- the least number of a text; -1 -/
def find (l : List (List UInt8)) (s : List UInt8) : Int := match l.findIdx? (· == s) with
  | none => -1
  | some i => i
theorem less_or (a b : List UInt8) : (Op.bytesLess a b || a == b) = !(Op.bytesLess b a) := by
  induction a generalizing b with
  | nil => cases b <;> simp [Op.bytesLess]
  | cons x a ih =>
    cases b with
    | nil => simp [Op.bytesLess]
    | cons y b =>
      have h := ih b
      simp only [Op.bytesLess]
      rcases Nat.lt_trichotomy x.toNat y.toNat with c | c | c
      · have c1 : x < y := UInt8.lt_iff_toNat_lt.2 c
        have c2 : ¬ y < x := fun k => by have := UInt8.lt_iff_toNat_lt.1 k; omega
        have c3 : ¬ y = x := fun k => by subst k; omega
        simp [c1, c2, c3]
      · have c1 : x = y := UInt8.toNat_inj.1 c
        subst c1
        have c2 : ¬ x < x := fun k => by have := UInt8.lt_iff_toNat_lt.1 k; omega
        simpa [c2] using h
      · have c1 : y < x := UInt8.lt_iff_toNat_lt.2 c
        have c2 : ¬ x < y := fun k => by have := UInt8.lt_iff_toNat_lt.1 k; omega
        have c3 : ¬ x = y := fun k => by subst k; omega
        simp [c1, c2, c3]
theorem leq_not (p t : List UInt8) : (Op.bytesLess t p || t == p) = !(behind p t) := less_or t p
theorem drop_row (l : List (List UInt8)) (k : Nat) (h : k < l.length) : l.drop k = l[k] :: l.drop (k + 1) := List.drop_eq_getElem_cons h
/-- the text ahead of the k-th one -/
def prev (l : List (List UInt8)) (k : Nat) : Option (List UInt8) := if k = 0 then none else l[k - 1]?
theorem prev_succ (l : List (List UInt8)) (k : Nat) (h : k < l.length) : prev l (k + 1) = some l[k] := by simp [prev, h]
theorem part_length (p t : List UInt8) (h : t.length ≤ 200) : (part p t).length ≤ 218 := by
  have h1 := (common_le p t).2
  have h2 := vb_length9 (common p t) (by omega)
  have h3 := vb_length9 (t.length - common p t) (by omega)
  unfold part; simp; omega
theorem uv_len (l : List UInt8) (k acc n m : Nat) (h : uv k acc l = some (n, m)) : k < m ∧ m ≤ k + l.length := by
  induction l generalizing k acc with
  | nil => simp [uv] at h
  | cons c t ih =>
    rw [uv] at h
    split at h
    · cases h
    · split at h
      · split at h
        · cases h
        · cases h; simp only [List.length_cons]; omega
      · have := ih _ _ h
        simp only [List.length_cons]; omega
theorem uv_lt (l : List UInt8) (k acc n m : Nat) (ha : acc < pw k) (h : uv k acc l = some (n, m)) : n < 9223372036854775808 := by
  induction l generalizing k acc with
  | nil => simp [uv] at h
  | cons c t ih =>
    rw [uv] at h
    have b : pw k * (c.toNat % 128) ≤ pw k * 127 := Nat.mul_le_mul_left _ (by omega)
    have hs := pw_succ k
    split at h
    · cases h
    · rename_i hk
      have hp := pw_le k (by omega)
      split at h
      · split at h
        · cases h
        · cases h; omega
      · exact ih (k + 1) _ (by omega) h
theorem from_drop (s : ByteArray) (p k : Nat) : (from_ s p).drop k = from_ s (p + k) := by unfold from_; rw [List.drop_drop]
theorem from_len (s : ByteArray) (p : Nat) : (from_ s p).length = s.size - p := by unfold from_; simp
theorem from_zero (s : ByteArray) : from_ s 0 = s.data.toList := by unfold from_; simp
theorem rd_none (s : ByteArray) (p : Nat) (h : uv 0 0 (from_ s p) = none) : rd (from_ s p) = none := by unfold rd; rw [h]
theorem rd_some (s : ByteArray) (p n k : Nat) (h : uv 0 0 (from_ s p) = some (n, k)) : rd (from_ s p) = some (n, from_ s (p + k)) := by unfold rd; rw [h]; simp only; rw [from_drop]
theorem uv_in (s : ByteArray) (p n k : Nat) (hp : p ≤ s.size) (h : uv 0 0 (from_ s p) = some (n, k)) : 0 < k ∧ p + k ≤ s.size ∧ n < 9223372036854775808 := by
  have h1 := uv_len _ _ _ _ _ h
  rw [from_len] at h1
  have h2 := uv_lt _ 0 0 _ _ (by decide) h
  omega
/-- one text more -/
theorem parse_step (s : ByteArray) (n p head k1 rest k2 : Nat) (ah : List UInt8) (h1 : uv 0 0 (from_ s p) = some (head, k1)) (h2 : head ≤ ah.length)
    (h3 : uv 0 0 (from_ s (p + k1)) = some (rest, k2)) (h4 : rest + (p + k1 + k2) ≤ s.size) :
    parse (n + 1) ah (from_ s p) = (parse n (ah.take head ++ (from_ s (p + k1 + k2)).take rest) (from_ s (p + k1 + k2 + rest))).map ((ah.take head ++ (from_ s (p + k1 + k2)).take rest) :: ·) := by
  rw [parse, rd_some s p head k1 h1]
  simp only
  rw [if_neg (by omega), rd_some s (p + k1) rest k2 h3]
  simp only
  rw [if_neg (by rw [from_len]; omega), from_drop]
  cases parse n (ah.take head ++ (from_ s (p + k1 + k2)).take rest) (from_ s (p + k1 + k2 + rest)) <;> rfl
theorem parse_none1 (s : ByteArray) (n p : Nat) (ah : List UInt8) (h1 : uv 0 0 (from_ s p) = none) : parse (n + 1) ah (from_ s p) = none := by
  rw [parse, rd_none s p h1]
theorem parse_none2 (s : ByteArray) (n p head k1 : Nat) (ah : List UInt8) (h1 : uv 0 0 (from_ s p) = some (head, k1)) (h2 : ah.length < head) : parse (n + 1) ah (from_ s p) = none := by
  rw [parse, rd_some s p head k1 h1]; simp only; rw [if_pos h2]
theorem parse_none3 (s : ByteArray) (n p head k1 : Nat) (ah : List UInt8) (h1 : uv 0 0 (from_ s p) = some (head, k1)) (h3 : uv 0 0 (from_ s (p + k1)) = none) : parse (n + 1) ah (from_ s p) = none := by
  rw [parse, rd_some s p head k1 h1]; simp only
  split
  · rfl
  · rw [rd_none s _ h3]
theorem parse_none4 (s : ByteArray) (n p head k1 rest k2 : Nat) (ah : List UInt8) (h1 : uv 0 0 (from_ s p) = some (head, k1))
    (h3 : uv 0 0 (from_ s (p + k1)) = some (rest, k2)) (h4 : s.size - (p + k1 + k2) < rest) : parse (n + 1) ah (from_ s p) = none := by
  rw [parse, rd_some s p head k1 h1]; simp only
  split
  · rfl
  · rw [rd_some s (p + k1) rest k2 h3]; simp only; rw [if_pos (by rw [from_len]; exact h4)]
theorem open_none1 (s : ByteArray) (h : uv 0 0 (from_ s 0) = none) : open_ s.data.toList = none := by
  unfold open_; rw [← from_zero, rd_none s 0 h]
theorem open_none2 (s : ByteArray) (n k : Nat) (h : uv 0 0 (from_ s 0) = some (n, k)) (hn : s.size < n) : open_ s.data.toList = none := by
  unfold open_; rw [← from_zero, rd_some s 0 n k h]; simp only; rw [if_pos (by rw [from_len]; omega)]
theorem open_of (s : ByteArray) (n k : Nat) (h : uv 0 0 (from_ s 0) = some (n, k)) (hn : n ≤ s.size) :
    open_ s.data.toList = match parse n [] (from_ s k) with | none => none | some l => if build l = (s.data.toList, 0, 0) then some l else none := by
  unfold open_; rw [← from_zero, rd_some s 0 n k h]; simp only; rw [if_neg (by rw [from_len]; omega), Nat.zero_add]
theorem build_iff (l : List (List UInt8)) (d : List UInt8) : build l = (d, 0, 0) ↔ (build l).2.1 = 0 ∧ (build l).1 = d := by
  constructor
  · intro h; rw [h]; exact ⟨rfl, rfl⟩
  · intro ⟨h1, h2⟩
    have := build_good l ((build_ok l).1 h1)
    rw [this] at h2 ⊢
    simp only at h2
    rw [h2]
theorem open_good (d : List UInt8) (l : List (List UInt8)) (h : open_ d = some l) : good none l = true ∧ l.length ≤ d.length := by
  have hb := open_some d l h
  have hg : good none l = true := (build_ok l).1 (by rw [hb])
  have := build_good l hg
  rw [hb] at this
  simp only [Prod.mk.injEq, and_true] at this
  have he := enc_length [] l
  refine ⟨hg, ?_⟩
  rw [this, List.length_append]; omega
theorem less_irrefl (a : List UInt8) : Op.bytesLess a a = false := by
  induction a with
  | nil => rfl
  | cons x a ih =>
    have c : ¬ x < x := fun k => by have := UInt8.lt_iff_toNat_lt.1 k; omega
    simp [Op.bytesLess, c, ih]
theorem less_trans (a b c : List UInt8) (h1 : Op.bytesLess a b = true) (h2 : Op.bytesLess b c = true) : Op.bytesLess a c = true := by
  induction a generalizing b c with
  | nil =>
    cases c with
    | nil => cases b <;> simp [Op.bytesLess] at h2
    | cons z c => rfl
  | cons x a ih =>
    cases b with
    | nil => simp [Op.bytesLess] at h1
    | cons y b =>
      cases c with
      | nil => simp [Op.bytesLess] at h2
      | cons z c =>
        simp only [Op.bytesLess, Bool.or_eq_true, decide_eq_true_eq, Bool.and_eq_true, beq_iff_eq] at h1 h2 ⊢
        rcases h1 with h1 | ⟨rfl, h1⟩
        · rcases h2 with h2 | ⟨rfl, h2⟩
          · left
            have a1 := UInt8.lt_iff_toNat_lt.1 h1
            have a2 := UInt8.lt_iff_toNat_lt.1 h2
            exact UInt8.lt_iff_toNat_lt.2 (by omega)
          · exact Or.inl h1
        · rcases h2 with h2 | ⟨rfl, h2⟩
          · exact Or.inl h2
          · exact Or.inr ⟨rfl, ih b c h1 h2⟩
theorem good_behind (l : List (List UInt8)) (p : List UInt8) (h : good (some p) l = true) : ∀ t ∈ l, behind p t = true := by
  induction l generalizing p with
  | nil => simp
  | cons t r ih =>
    simp only [good, Bool.and_eq_true, decide_eq_true_eq] at h
    obtain ⟨⟨_, h2⟩, h3⟩ := h
    have h2' : behind p t = true := h2
    intro x hx
    rcases List.mem_cons.1 hx with rfl | hx
    · exact h2'
    · exact less_trans p t x h2' (ih t h3 x hx)
theorem good_tail (l : List (List UInt8)) (p : Option (List UInt8)) (t : List UInt8) (h : good p (t :: l) = true) : good (some t) l = true := by
  simp only [good, Bool.and_eq_true] at h; exact h.2
theorem good_rise (l : List (List UInt8)) (p : Option (List UInt8)) (h : good p l = true) (i j : Nat) (x y : List UInt8) (hij : i < j) (hx : l[i]? = some x) (hy : l[j]? = some y) : behind x y = true := by
  induction l generalizing p i j with
  | nil => simp at hx
  | cons t r ih =>
    have hg := good_tail r p t h
    cases j with
    | zero => omega
    | succ j =>
      cases i with
      | zero =>
        simp at hx hy
        subst hx
        exact good_behind r t hg y (List.mem_of_getElem? hy)
      | succ i => exact ih (some t) hg i j (by omega) (by simpa using hx) (by simpa using hy)
theorem good_other (l : List (List UInt8)) (h : good none l = true) (k : Nat) (x : List UInt8) (hk : l[k]? = some x) : ∀ i, i < k → l[i]? ≠ some x := by
  intro i hi he
  have := good_rise l none h i k x x hi he hk
  rw [behind, less_irrefl] at this; cases this
theorem bld_len (l : List (List UInt8)) (i : Nat) (p : Option (List UInt8)) (out : List UInt8) : (bld i p out l).1.length ≤ out.length + 218 * l.length := by
  induction l generalizing i p out with
  | nil => simp [bld]
  | cons t r ih =>
    rw [bld]
    split
    · simp
    · split
      · have := ih (i + 1) (some t) (out ++ part (p.getD []) t)
        have hp := part_length (p.getD []) t (by omega)
        simp only [List.length_append] at this
        simp only [List.length_cons]; omega
      · simp
theorem build_len (l : List (List UInt8)) (h : l.length < 9223372036854775808) : (build l).1.length ≤ 9 + 218 * l.length := by
  have := bld_len l 0 none (vb l.length)
  have h9 := vb_length9 l.length h
  unfold build; omega
end Go.Proofs.YtnnldpccagajbaaDoor
