import Derived.Test.YtoelacloghkooaaGreatDoorM02
import Derived.Test.YtoelacloghkooaaGreatDoorM10
import Derived.Lib.Bytealg
import Derived.Laws.CopyOwn
/-
  Chapter 4's one form in plain lists: D3, D4. Nothing of the program.
-/
namespace Go.Proofs.YtoelacloghkooaaGreatDoor
set_option linter.unusedVariables false
/-- a byte within a STRING -/
def escB (c : UInt8) : List UInt8 := if c = 34 then [92, 34] else if c = 92 then [92, 92] else if c = 10 then [92, 110] else [c]
def escF (l : List UInt8) : List UInt8 := l.flatMap escB
theorem escF_snoc (l : List UInt8) (c : UInt8) : escF (l ++ [c]) = escF l ++ escB c := by simp [escF]
theorem escB_len (c : UInt8) : (escB c).length ≤ 2 := by unfold escB; split <;> (try split) <;> (try split) <;> simp
theorem escF_len (l : List UInt8) : (escF l).length ≤ 2 * l.length := by
  induction l with
  | nil => simp [escF]
  | cons c l ih => have := escB_len c; simp only [escF, List.flatMap_cons, List.length_append, List.length_cons] at *; omega
/-- D3 -/
def constF (l : List UInt8) : List UInt8 := if isName l || isDigB l then l else [34] ++ escF l ++ [34]
theorem constF_len (l : List UInt8) : (constF l).length ≤ 2 * l.length + 2 := by
  unfold constF
  split
  · omega
  · have := escF_len l; simp; omega
/-- things with commas between -/
def commaF {α : Type} (f : α → List UInt8) : List α → List UInt8
  | [] => []
  | [x] => f x
  | x :: y :: r => f x ++ [44, 32] ++ commaF f (y :: r)
theorem commaF_snoc {α : Type} (f : α → List UInt8) (x : α) : ∀ xs : List α, commaF f (xs ++ [x]) = if xs.length = 0 then f x else commaF f xs ++ [44, 32] ++ f x := by
  intro xs
  induction xs with
  | nil => rfl
  | cons y ys ih =>
    cases ys with
    | nil => simp [commaF]
    | cons z zs =>
      have : commaF f (z :: zs ++ [x]) = commaF f (z :: zs) ++ [44, 32] ++ f x := by rw [ih]; simp
      show f y ++ [44, 32] ++ commaF f (z :: zs ++ [x]) = _
      rw [this]
      simp [commaF]
/-- with commas ahead, too: what 'listed' has written behind k things -/
theorem commaF_take {α : Type} (f : α → List UInt8) (l : List α) (k : Nat) (h : k < l.length) : commaF f (l.take (k + 1)) = if k = 0 then f l[k] else commaF f (l.take k) ++ [44, 32] ++ f l[k] := by
  rw [List.take_succ_eq_append_getElem h, commaF_snoc]
  rw [List.length_take, Nat.min_eq_left (by omega)]
def termTextF (t : PTerm) : List UInt8 := if t.isVar then t.text else constF t.text
def atomTextF (a : PAtom) : List UInt8 := a.name ++ (if a.args.length = 0 then [] else [40] ++ commaF termTextF a.args ++ [41])
def signTextF (k : Nat) : List UInt8 := if k = 2 then [61] else if k = 3 then [33, 61] else [60]
def partTextF (p : PPart) : List UInt8 := if p.kind = 0 then atomTextF p.atom else if p.kind = 1 then [110, 111, 116, 32] ++ atomTextF p.atom else termTextF p.left ++ [32] ++ signTextF p.kind ++ [32] ++ termTextF p.right
def ruleTextF (r : PRule) : List UInt8 := atomTextF r.head ++ (if r.body.length = 0 then [] else [32, 58, 45, 32] ++ commaF partTextF r.body) ++ [46, 10]
def rulesTextF (rs : List PRule) : List UInt8 := rs.flatMap ruleTextF
theorem rulesTextF_take (rs : List PRule) (k : Nat) (h : k < rs.length) : rulesTextF (rs.take (k + 1)) = rulesTextF (rs.take k) ++ ruleTextF rs[k] := by
  rw [List.take_succ_eq_append_getElem h]; unfold rulesTextF; rw [List.flatMap_append, List.flatMap_singleton]
/-- D4 -/
def printF (l : List UInt8) : Except PErr (List UInt8) := match parseF l with
  | .error e => .error e
  | .ok rs => .ok (rulesTextF rs)
end Go.Proofs.YtoelacloghkooaaGreatDoor

/-
  (*strings.byteStringReplacer).Replace at the program's three bytes, walked.
-/
namespace Go.Proofs.YtoelacloghkooaaGreatDoor
open Go.ChangeShapes Go.WideShapes Go.ChangeAt Go.RowKit
set_option linter.unusedVariables false
def isE (c : UInt8) : Bool := c == 10 || c == 92 || c == 34
def cntE (l : List UInt8) : Nat := l.countP isE
theorem escB_two (c : UInt8) : (escB c).length = if isE c then 2 else 1 := by
  unfold escB isE
  by_cases h1 : c = 34
  · subst h1; decide
  · by_cases h2 : c = 92
    · subst h2; decide
    · by_cases h3 : c = 10
      · subst h3; decide
      · simp [h1, h2, h3]
theorem escF_cnt (l : List UInt8) : (escF l).length = l.length + cntE l := by
  induction l with
  | nil => rfl
  | cons c l ih =>
    have h := escB_two c
    simp only [escF, cntE, List.flatMap_cons, List.length_append, List.length_cons, List.countP_cons] at *
    rw [ih, h]
    split <;> omega
theorem cntE_sum (l : List UInt8) : cntE l = l.count 10 + l.count 92 + l.count 34 := by
  induction l with
  | nil => rfl
  | cons c l ih =>
    simp only [cntE, List.countP_cons, List.count_cons, isE] at *
    rw [ih]
    by_cases h1 : c = 10
    · subst h1; simp; omega
    · by_cases h2 : c = 92
      · subst h2; simp; omega
      · by_cases h3 : c = 34
        · subst h3; simp; omega
        · simp [h1, h2, h3]
theorem escB_plain {c : UInt8} (h : isE c = false) : escB c = [c] := by
  unfold isE at h
  simp only [Bool.or_eq_false_iff, beq_eq_false_iff_ne] at h
  unfold escB
  rw [if_neg h.2, if_neg h.1.2, if_neg h.1.1]
theorem escF_same (l : List UInt8) (h : cntE l = 0) : escF l = l := by
  induction l with
  | nil => rfl
  | cons c l ih =>
    simp only [cntE, List.countP_cons] at h
    have h1 : isE c = false := by
      cases hc : isE c with
      | false => rfl
      | true => simp [hc] at h
    have h2 : cntE l = 0 := by unfold cntE; omega
    have : escF (c :: l) = escB c ++ escF l := rfl
    rw [this, escB_plain h1, ih h2]; rfl
theorem cntE_le (l : List UInt8) : cntE l ≤ l.length := List.countP_le_length
theorem cntE_step (s : ByteArray) (k : Nat) (h : k < s.size) : cntE (s.data.toList.take (k + 1)) = cntE (s.data.toList.take k) + (if isE s[k] then 1 else 0) := by
  rw [List.take_succ_eq_append_getElem (by simpa using h)]
  unfold cntE
  rw [List.countP_append, List.countP_singleton]
  rfl
theorem cntE_take (s : ByteArray) (k : Nat) : cntE (s.data.toList.take k) ≤ s.size := by
  have := cntE_le (s.data.toList.take k)
  rw [List.length_take] at this
  have h2 : s.data.toList.length = s.size := by simp
  omega
set_option maxRecDepth 100000 in
theorem count_any (s : ByteArray) (c : UInt8) (w : World) :
    Calls Tryz.prog 187 #[.string s, .string (str [c])] w fun e w' => e = .returned (.int .i64 (s.data.toList.count c : Nat)) ∧ w = w' := by
  have hr := run_callFunc_extern (P := Tryz.prog) Tryz.func189 (by kernel_rfl) (by kernel_rfl) (by kernel_rfl) (e := Extern.BytealgCount.count) (by kernel_rfl)
  have hc := byte_le c
  have h1 : (str [c]).size = 1 := rfl
  have hcs : ((c.toNat : Int)).toNat.toUInt8 = c := by simp
  obtain ⟨X, HX⟩ : ∃ X, Hid (str [c] = X) := ⟨_, (rfl : _ = _)⟩
  have hx1 : X.size = 1 := by rw [← HX.out]; rfl
  have hx0 : X[0]'(by omega) = c := by
    have := HX.out; subst this; rfl
  obtain ⟨n, HN⟩ : ∃ n, Hid (s.data.toList.count c = n) := ⟨_, (rfl : _ = _)⟩
  have hcnt : ∀ w, (Extern.BytealgCount.count #[.string s, .int .u8 (c.toNat : Int)]).run Tryz.prog w = .ok (.int .i64 (n : Int)) w := fun w => by rw [Lib.run_countString, hcs, ← HN.out]; rfl
  clear hcs h1
  rw [HX.out]
  go_enter Tryz.func187, Tryz.ntmps187
  go_wp2
  go_ret
  exact ⟨by rw [HN.out]; rfl, rfl⟩
theorem repS3 : repS 3 = [.string (str [10]), .string (str [92]), .string (str [34])] := rfl
def zs (n : Nat) : List Value := List.replicate n (.int .u8 0)
theorem fill_two (E : List UInt8) (M : Nat) (x y : UInt8) (h : E.length + 2 ≤ M) : splice (bs E ++ zs (M - E.length)) E.length (bs [x, y]) = bs (E ++ [x, y]) ++ zs (M - (E ++ [x, y]).length) := by
  unfold splice
  have e1 : (bs E ++ zs (M - E.length)).take E.length = bs E := by rw [← bs_length E]; exact List.take_left
  have e2 : (bs E ++ zs (M - E.length)).drop (E.length + (bs [x, y]).length) = zs (M - (E ++ [x, y]).length) := by
    rw [← List.drop_drop, show (bs E ++ zs (M - E.length)).drop E.length = zs (M - E.length) from by rw [← bs_length E]; exact List.drop_left]
    unfold zs
    rw [List.drop_replicate, List.length_append, bs_length]
    congr 1
    try omega
  rw [e1, e2, ← bs_app, List.append_assoc]
theorem fill_one (E : List UInt8) (M : Nat) (x : UInt8) (h : E.length + 1 ≤ M) : (bs E ++ zs (M - E.length)).set E.length (.int .u8 (x.toNat : Int)) = bs (E ++ [x]) ++ zs (M - (E ++ [x]).length) := by
  obtain ⟨m, hm⟩ : ∃ m, M - E.length = m + 1 := ⟨M - E.length - 1, by omega⟩
  have hm2 : M - (E ++ [x]).length = m := by simp; omega
  rw [hm, hm2]
  unfold zs
  rw [List.replicate_succ, List.set_append_right _ _ (by rw [bs_length]; omega), bs_length, Nat.sub_self, List.set_cons_zero, ← bs_snoc]
  simp
theorem row_own {w : World} {B g M : Nat} {l : List UInt8} (hB : B ≤ g) (hM : M ≤ maxLen) (hl : l.length = M) (h : w.heap[g]? = some (.cells (bs l).toArray 5 (0, 0))) : w.ownsRow B 5 1 (.slice (some ⟨g, 0, none⟩) M M) l.length (bs l) :=
  ⟨by rw [bs_length, Nat.mul_one], Or.inr ⟨g, M, (bs l).toArray, by rw [hl], hB, h, by omega, hM, by simp [bs_length, hl], by rw [Nat.mul_one, ← bs_length l]; exact List.take_length⟩⟩
theorem RepAt.at_byte {base R : Nat} {w : World} (h : RepAt base w R 3 3) (c : UInt8) : (isE c = false ∧ w.cell? ⟨R, c.toNat, none⟩ = some (.slice none 0 0)) ∨ (isE c = true ∧ ∃ g cap x, escB c = [92, x] ∧ w.cell? ⟨R, c.toNat, none⟩ = some (.slice (some ⟨g, 0, none⟩) 2 cap) ∧ Row8 w g [92, x] ∧ Kind w g 5) := by
  have hc := c.toNat_lt
  cases hE : isE c with
  | true =>
    right
    refine ⟨rfl, ?_⟩
    have : c = 10 ∨ c = 92 ∨ c = 34 := by simpa [isE, or_assoc] using hE
    rcases this with rfl | rfl | rfl
    · obtain ⟨g, cap, h1, h2, h3⟩ := h.rows 0 10 [92, 110] (by omega) rfl
      exact ⟨g, cap, 110, rfl, h1, h2, h3⟩
    · obtain ⟨g, cap, h1, h2, h3⟩ := h.rows 1 92 [92, 92] (by omega) rfl
      exact ⟨g, cap, 92, rfl, h1, h2, h3⟩
    · obtain ⟨g, cap, h1, h2, h3⟩ := h.rows 2 34 [92, 34] (by omega) rfl
      exact ⟨g, cap, 34, rfl, h1, h2, h3⟩
  | false =>
    left
    refine ⟨rfl, h.gone c.toNat (by omega) (fun j c' r hj hc' he => ?_)⟩
    have hcc : c' = c := UInt8.toNat_inj.1 he
    subst hcc
    have : j = 0 ∨ j = 1 ∨ j = 2 := by omega
    rcases this with rfl | rfl | rfl <;> (simp [repB] at hc'; rw [← hc'.1] at hE; revert hE; decide)
set_option maxRecDepth 100000 in
set_option maxHeartbeats 8000000 in
theorem preplace_any (base R : Nat) (s : ByteArray) (w : World) (h : RepAt base w R 3 3) (hs : s.size ≤ 1073741824) :
    Calls Tryz.prog 185 #[.pointer (some ⟨R, 0, none⟩), .string s] w fun e w' => e = .returned (.string (str (escF s.data.toList))) ∧ w.grownBy w' none := by
  obtain ⟨i0, hi0, hz0, hz1, hz2⟩ := info_parts info5
  have HRP := hide h
  obtain ⟨v, hv, hvo⟩ := h.list
  obtain ⟨gt, ct, rfl⟩ : ∃ gt ct, v = .slice (some ⟨gt, 0, none⟩) 3 ct := by
    rcases hvo.2 with ⟨_, h0⟩ | ⟨g', cap, cur, hv, _⟩
    · cases h0
    · exact ⟨g', cap, hv⟩
  have x1 : w.cell? ⟨gt, 0, none⟩ = some (.string (str [10])) := hvo.cellAt 0 (by omega)
  have x2 : w.cell? ⟨gt, 1, none⟩ = some (.string (str [92])) := hvo.cellAt 1 (by omega)
  have x3 : w.cell? ⟨gt, 2, none⟩ = some (.string (str [34])) := hvo.cellAt 2 (by omega)
  obtain ⟨g1, p1, y1, -, -⟩ := h.rows 0 10 [92, 110] (by omega) rfl
  obtain ⟨g2, p2, y2, -, -⟩ := h.rows 1 92 [92, 92] (by omega) rfl
  obtain ⟨g3, p3, y3, -, -⟩ := h.rows 2 34 [92, 34] (by omega) rfl
  have y1' : w.cell? ⟨R, 10, none⟩ = some (.slice (some ⟨g1, 0, none⟩) 2 p1) := y1
  have y2' : w.cell? ⟨R, 92, none⟩ = some (.slice (some ⟨g2, 0, none⟩) 2 p2) := y2
  have y3' : w.cell? ⟨R, 34, none⟩ = some (.slice (some ⟨g3, 0, none⟩) 2 p3) := y3
  obtain ⟨n1, H1⟩ : ∃ n, Hid (s.data.toList.count 10 = n) := ⟨_, (rfl : _ = _)⟩
  obtain ⟨n2, H2⟩ : ∃ n, Hid (s.data.toList.count 92 = n) := ⟨_, (rfl : _ = _)⟩
  obtain ⟨n3, H3⟩ : ∃ n, Hid (s.data.toList.count 34 = n) := ⟨_, (rfl : _ = _)⟩
  have hl0 : s.data.toList.length = s.size := by simp
  have hn1 : n1 ≤ s.size := by rw [← H1.out, ← hl0]; exact List.count_le_length
  have hn2 : n2 ≤ s.size := by rw [← H2.out, ← hl0]; exact List.count_le_length
  have hn3 : n3 ≤ s.size := by rw [← H3.out, ← hl0]; exact List.count_le_length
  have HNN : Hid (cntE s.data.toList = n1 + n2 + n3) := by show _ = _; rw [cntE_sum, H1.out, H2.out, H3.out]
  have hN : n1 + n2 + n3 ≤ s.size := by rw [← HNN.out, ← hl0]; exact cntE_le _
  have HML : Hid ((escF s.data.toList).length = s.size + (n1 + n2 + n3)) := by show _ = _; rw [escF_cnt, HNN.out, hl0]
  have HSAME : Hid (n1 + n2 + n3 = 0 → str (escF s.data.toList) = s) := fun h0 => by rw [escF_same _ (by rw [HNN.out]; exact h0), str_data]
  obtain ⟨X1, HX1⟩ : ∃ X, Hid (str [10] = X) := ⟨_, (rfl : _ = _)⟩
  have HC1 : Hid (∀ w, Calls Tryz.prog 187 #[.string s, .string X1] w fun e w' => e = .returned (.int .i64 (n1 : Nat)) ∧ w = w') := by
    intro w
    have := count_any s 10 w
    rw [H1.out, HX1.out] at this
    exact this
  rw [HX1.out] at x1
  have hs1 : X1.size = 1 := by rw [← HX1.out]; rfl
  have hb1 : ((X1[0]'(by omega)).toNat : Int) = 10 := by have h := HX1.out; subst h; rfl
  have hc1 : (X1[0]'(by omega)).toNat = 10 := by have h := HX1.out; subst h; rfl
  obtain ⟨X2, HX2⟩ : ∃ X, Hid (str [92] = X) := ⟨_, (rfl : _ = _)⟩
  have HC2 : Hid (∀ w, Calls Tryz.prog 187 #[.string s, .string X2] w fun e w' => e = .returned (.int .i64 (n2 : Nat)) ∧ w = w') := by
    intro w
    have := count_any s 92 w
    rw [H2.out, HX2.out] at this
    exact this
  rw [HX2.out] at x2
  have hs2 : X2.size = 1 := by rw [← HX2.out]; rfl
  have hb2 : ((X2[0]'(by omega)).toNat : Int) = 92 := by have h := HX2.out; subst h; rfl
  have hc2 : (X2[0]'(by omega)).toNat = 92 := by have h := HX2.out; subst h; rfl
  obtain ⟨X3, HX3⟩ : ∃ X, Hid (str [34] = X) := ⟨_, (rfl : _ = _)⟩
  have HC3 : Hid (∀ w, Calls Tryz.prog 187 #[.string s, .string X3] w fun e w' => e = .returned (.int .i64 (n3 : Nat)) ∧ w = w') := by
    intro w
    have := count_any s 34 w
    rw [H3.out, HX3.out] at this
    exact this
  rw [HX3.out] at x3
  have hs3 : X3.size = 1 := by rw [← HX3.out]; rfl
  have hb3 : ((X3[0]'(by omega)).toNat : Int) = 34 := by have h := HX3.out; subst h; rfl
  have hc3 : (X3[0]'(by omega)).toNat = 34 := by have h := HX3.out; subst h; rfl
  clear hvo h y1 y2 y3
  go_enter Tryz.func185, Tryz.ntmps185
  by_cases hbig : 24 ≤ s.size
  · have hd : decide ((24 : Int) ≤ (s.size : Int)) = true := by simp; omega
    go_wp2_with fail
    go_loopw [5, 6, 8, 9, 32] (fun nv av xv cv iv wr => ∃ (k q z n : Nat) (a : Bool), k ≤ 3 ∧ iv = .int .i64 k ∧ nv = .int .i64 (z : Nat) ∧ av = .bool a ∧ wr = w.drewN n ∧ z ≤ 2 * s.size ∧ Hid (z = s.size + q) ∧ Hid (a = decide (q ≠ 0)) ∧ (k = 0 ∧ q = 0 ∨ k = 1 ∧ q = n1 ∨ k = 2 ∧ q = n1 + n2 ∨ k = 3 ∧ q = n1 + n2 + n3)) (fun _ _ _ _ iv _ => 3 - (intOf iv).toNat)
    case atStart => exact ⟨0, 0, s.size, 0, false, by omega, rfl, rfl, rfl, rfl, by omega, hide rfl, hide rfl, Or.inl ⟨rfl, rfl⟩⟩
    case round =>
      obtain ⟨k, q, z, n, a, hk, rfl, rfl, rfl, rfl, hzs, HZ, HAA, hst⟩ := hrel
      obtain ⟨hk0, hq⟩ | ⟨hk0, hq⟩ | ⟨hk0, hq⟩ | ⟨hk0, hq⟩ := hst
      · have xk : (w.drewN n).cell? ⟨gt, k, none⟩ = some (.string X1) := by rw [hk0]; exact x1
        have yk : (w.drewN n).cell? ⟨R, 10, none⟩ = some (.slice (some ⟨g1, 0, none⟩) 2 p1) := y1'
        have HK := hide hk0
        have HQ := hide hq
        have hlt : k < 3 := by omega
        clear hk0 hq
        go_wp2_with fail
        refine (HC1.out _).mono ?_
        rintro e w2 ⟨rfl, rfl⟩
        by_cases h0 : n1 = 0
        · have e0 : ((n1 : Int) != 0) = false := by simp [h0]
          have HN0 := hide h0
          clear h0
          go_wp2
          go_roundw
          case rel => exact ⟨k + 1, q, z, n, a, by omega, by go_num, rfl, rfl, rfl, hzs, HZ, HAA, by have h1 := HK.out; have h2 := HQ.out; have h3 := HN0.out; exact Or.inr (Or.inl ⟨by omega, by omega⟩)⟩
          case measure => simp [intOf]; omega
        · have e0 : ((n1 : Int) != 0) = true := by rw [bne_iff_ne]; omega
          obtain ⟨z2, HZ2⟩ : ∃ z2, Hid (z2 = z + n1) := ⟨_, hide rfl⟩
          have hz2s : z2 ≤ 2 * s.size := by have h1 := HZ2.out; have h2 := HZ.out; have h3 := HQ.out; omega
          have hz2i : ((z : Int) + (n1 : Int)) = (z2 : Int) := by have h1 := HZ2.out; omega
          have HN0 := hide h0
          clear h0
          go_wp2_with fail
          go_quiet (fail)
          go_wp2
          go_roundw
          case rel => exact ⟨k + 1, q + n1, z2, _, true, by omega, by go_num, by rw [← hz2i], rfl, rfl, hz2s, hide (by have h1 := HZ2.out; have h2 := HZ.out; omega), hide (by have h3 := HN0.out; simp; omega), by have h1 := HK.out; have h2 := HQ.out; exact Or.inr (Or.inl ⟨by omega, by omega⟩)⟩
          case measure => simp [intOf]; omega
      · have xk : (w.drewN n).cell? ⟨gt, k, none⟩ = some (.string X2) := by rw [hk0]; exact x2
        have yk : (w.drewN n).cell? ⟨R, 92, none⟩ = some (.slice (some ⟨g2, 0, none⟩) 2 p2) := y2'
        have HK := hide hk0
        have HQ := hide hq
        have hlt : k < 3 := by omega
        clear hk0 hq
        go_wp2_with fail
        refine (HC2.out _).mono ?_
        rintro e w2 ⟨rfl, rfl⟩
        by_cases h0 : n2 = 0
        · have e0 : ((n2 : Int) != 0) = false := by simp [h0]
          have HN0 := hide h0
          clear h0
          go_wp2
          go_roundw
          case rel => exact ⟨k + 1, q, z, n, a, by omega, by go_num, rfl, rfl, rfl, hzs, HZ, HAA, by have h1 := HK.out; have h2 := HQ.out; have h3 := HN0.out; exact Or.inr (Or.inr (Or.inl ⟨by omega, by omega⟩))⟩
          case measure => simp [intOf]; omega
        · have e0 : ((n2 : Int) != 0) = true := by rw [bne_iff_ne]; omega
          obtain ⟨z2, HZ2⟩ : ∃ z2, Hid (z2 = z + n2) := ⟨_, hide rfl⟩
          have hz2s : z2 ≤ 2 * s.size := by have h1 := HZ2.out; have h2 := HZ.out; have h3 := HQ.out; omega
          have hz2i : ((z : Int) + (n2 : Int)) = (z2 : Int) := by have h1 := HZ2.out; omega
          have HN0 := hide h0
          clear h0
          go_wp2_with fail
          go_quiet (fail)
          go_wp2
          go_roundw
          case rel => exact ⟨k + 1, q + n2, z2, _, true, by omega, by go_num, by rw [← hz2i], rfl, rfl, hz2s, hide (by have h1 := HZ2.out; have h2 := HZ.out; omega), hide (by have h3 := HN0.out; simp; omega), by have h1 := HK.out; have h2 := HQ.out; exact Or.inr (Or.inr (Or.inl ⟨by omega, by omega⟩))⟩
          case measure => simp [intOf]; omega
      · have xk : (w.drewN n).cell? ⟨gt, k, none⟩ = some (.string X3) := by rw [hk0]; exact x3
        have yk : (w.drewN n).cell? ⟨R, 34, none⟩ = some (.slice (some ⟨g3, 0, none⟩) 2 p3) := y3'
        have HK := hide hk0
        have HQ := hide hq
        have hlt : k < 3 := by omega
        clear hk0 hq
        go_wp2_with fail
        refine (HC3.out _).mono ?_
        rintro e w2 ⟨rfl, rfl⟩
        by_cases h0 : n3 = 0
        · have e0 : ((n3 : Int) != 0) = false := by simp [h0]
          have HN0 := hide h0
          clear h0
          go_wp2
          go_roundw
          case rel => exact ⟨k + 1, q, z, n, a, by omega, by go_num, rfl, rfl, rfl, hzs, HZ, HAA, by have h1 := HK.out; have h2 := HQ.out; have h3 := HN0.out; exact Or.inr (Or.inr (Or.inr ⟨by omega, by omega⟩))⟩
          case measure => simp [intOf]; omega
        · have e0 : ((n3 : Int) != 0) = true := by rw [bne_iff_ne]; omega
          obtain ⟨z2, HZ2⟩ : ∃ z2, Hid (z2 = z + n3) := ⟨_, hide rfl⟩
          have hz2s : z2 ≤ 2 * s.size := by have h1 := HZ2.out; have h2 := HZ.out; have h3 := HQ.out; omega
          have hz2i : ((z : Int) + (n3 : Int)) = (z2 : Int) := by have h1 := HZ2.out; omega
          have HN0 := hide h0
          clear h0
          go_wp2_with fail
          go_quiet (fail)
          go_wp2
          go_roundw
          case rel => exact ⟨k + 1, q + n3, z2, _, true, by omega, by go_num, by rw [← hz2i], rfl, rfl, hz2s, hide (by have h1 := HZ2.out; have h2 := HZ.out; omega), hide (by have h3 := HN0.out; simp; omega), by have h1 := HK.out; have h2 := HQ.out; exact Or.inr (Or.inr (Or.inr ⟨by omega, by omega⟩))⟩
          case measure => simp [intOf]; omega
      · have HK := hide hk0
        have HQ : Hid (q = n1 + n2 + n3) := hq
        have hge : 3 ≤ k := by omega
        rw [HQ.out] at HZ HAA
        have HGW : Hid (w.grownBy (w.drewN n) none) := fr_draws _ _ _
        have HRW := hide (HRP.out.grown HGW.out)
        clear hk0 hq HQ
        generalize w.drewN n = wA at *
        cases a with
        | false =>
          have HZ0 : Hid (n1 + n2 + n3 = 0) := hide (by have h := HAA.out; simp at h; omega)
          go_wp2
          go_ret
          exact ⟨ret_str (HSAME.out HZ0.out).symm, HGW.out⟩
        | true =>
          have hzb : z ≤ 2147483648 := by have := HZ.out; omega
          have HM : Hid ((escF s.data.toList).length = z) := by show _ = _; rw [HML.out, HZ.out]
          obtain ⟨wm, hmk, hownM, hgM⟩ := run_make_full wA wA.heap.size 49 5 i0 (.int .u8 0) 1 (P := Tryz.prog) Tryz.underlying49 hi0 hz0 hz1 .i64 .i64 z (by rw [hz2]; omega) (by unfold maxLen; omega) (Nat.le_refl _)
          have HHP : Hid (wm.heap[wA.heap.size]? = some (.cells (bs [] ++ zs (z - ([] : List UInt8).length)).toArray 5 (0, 0))) := by
            show _ = _
            rcases hownM.2 with ⟨h0, _⟩ | ⟨g', cap', cur, hv', _, hg', _, _, hsz', htk⟩
            · cases h0
            · cases hv'
              have hm : (madeCells (Value.int .u8 0).cells (z * 1)).toList = zs z := by rw [Nat.mul_one]; exact toList_madeCells_one _ _
              have hc : cur.toList = zs z := by rw [← hm, ← htk, List.take_of_length_le (by simp; omega)]
              rw [hg', show (bs [] ++ zs (z - ([] : List UInt8).length)) = cur.toList from by rw [hc]; rfl, Array.toArray_toList]
          have hmk' : Sem.run Tryz.prog (Instr.makeSlice 49 (.int .i64 (z : Int)) (.int .i64 (z : Int))) wA = .ok (.slice (some ⟨wA.heap.size, 0, none⟩) z z) wm := hmk
          have HBM : Hid (Below wA.heap.size wA wm) := below_fr hgM
          clear hmk hownM hgM
          obtain ⟨gb, HGB⟩ : ∃ gb, Hid (wA.heap.size = gb) := ⟨_, hide rfl⟩
          rw [HGB.out] at hmk' HHP HBM
          have HLE : Hid (∀ k, (escF (s.data.toList.take k)).length ≤ z) := fun k => by
            rw [← HM.out]
            conv => rhs; rw [← List.take_append_drop k s.data.toList]
            unfold escF; rw [List.flatMap_append, List.length_append]; omega
          go_wp2_with fail
          go_loopw [13, 14, 15] (fun jv iv bv wz => ∃ (k jn : Nat) (E : List UInt8), k ≤ s.size ∧ jn ≤ z ∧ iv = .int .i64 k ∧ jv = .int .i64 (jn : Nat) ∧ Hid (E.length = jn) ∧ Hid (escF (s.data.toList.take k) = E) ∧ Hid (wz.heap[gb]? = some (.cells (bs E ++ zs (z - E.length)).toArray 5 (0, 0))) ∧ Hid (Below gb wA wz)) (fun _ iv _ _ => s.size - (intOf iv).toNat)
          case atStart => exact ⟨0, 0, [], by omega, by omega, rfl, rfl, hide rfl, hide rfl, HHP, HBM⟩
          case round =>
            obtain ⟨k, jn, E, hk, hj, rfl, rfl, HEL, HEE, HHZ, HBZ⟩ := hrel
            have HBZ' := HBZ.out
            rw [← HGB.out] at HBZ'
            have HGZ := hide (fr_below HBZ')
            clear HBZ' hmk'
            by_cases hlt : k < s.size
            · have HST : Hid (escF (s.data.toList.take (k + 1)) = E ++ escB s[k]) := by show _ = _; rw [List.take_succ_eq_append_getElem (by simpa using hlt), escF_snoc, HEE.out]; rfl
              have hc := byte_le s[k]
              have hbnd : E.length + (escB s[k]).length ≤ z := by have h := HLE.out (k + 1); rw [HST.out, List.length_append] at h; exact h
              rcases (HRW.out.grown HGZ.out).at_byte s[k] with ⟨hE, hcl⟩ | ⟨hE, gx, cx, x, hesc, hcl, hrow, hkd⟩
              · have HEP := hide (escB_plain hE)
                rw [HEP.out] at HST hbnd
                have hj2 : jn < z := by have h := HEL.out; simp at hbnd; omega
                have hn := neq_nil none 0 0
                have fz : wr.frozen? ⟨gb, jn, none⟩ = false := Lib.frozen_of_heap HHZ.out jn
                obtain ⟨old, hold⟩ : ∃ u, wr.cell? ⟨gb, jn, none⟩ = some u := by
                  rw [Lib.cell_of_heap HHZ.out]
                  exact ⟨_, Array.getElem?_eq_getElem (by simp [bs_length, zs]; have h := HEL.out; omega)⟩
                clear hE hbnd
                have HH2 : Hid ((wr.setCell ⟨gb, jn, none⟩ (.int .u8 (s[k].toNat : Int))).heap[gb]? = some (.cells (bs (E ++ [s[k]]) ++ zs (z - (E ++ [s[k]]).length)).toArray 5 (0, 0))) := by
                  show _ = _
                  rw [heap_setCell_same wr gb jn _ _ _ HHZ.out, List.setIfInBounds_toArray, ← HEL.out, fill_one E z s[k] (by have h := HEL.out; omega)]
                go_wp2
                go_roundw
                case rel => exact ⟨k + 1, jn + 1, E ++ [s[k]], by omega, by omega, by go_num, by go_num, hide (by have h := HEL.out; simp; omega), HST, HH2, HBZ.out.setCell (p := ⟨gb, jn, none⟩) (Nat.le_refl _) _⟩
                case measure => simp [intOf]; omega
              · have HESC := hide hesc
                rw [HESC.out] at HST hbnd
                have hj2 : jn + 2 ≤ z := by have h := HEL.out; simp at hbnd; omega
                have hn := neq_nil (some ⟨gx, 0, none⟩) 2 cx
                have HROW := hide hrow
                clear hE hbnd hrow hkd hesc
                have b1 : s[k].toNat < 256 := s[k].toNat_lt
                have b2 : ((s[k].toNat : Int) < 256) := by omega
                have b3 : ¬ ((s[k].toNat : Int) < 0) := by omega
                have HCP : Hid (∀ wx : World, (∃ n, wx = wr.drewN n) → (wx.heap[gb]? = some (.cells (bs E ++ zs (z - E.length)).toArray 5 (0, 0)) ∧ Below gb wA wx ∧ ∀ j v, (bs [92, x])[j]? = some v → wx.cell? ((⟨gx, 0, none⟩ : Addr).add j) = some v)) := by
                  rintro wx ⟨n, rfl⟩
                  refine ⟨HHZ.out, HBZ.out.trans ⟨rfl, rfl, rfl, Nat.le_refl _, fun _ _ => rfl⟩, fun j v hv => ?_⟩
                  obtain ⟨c', hc', rfl⟩ : ∃ c', ([92, x] : List UInt8)[j]? = some c' ∧ Value.int .u8 (c'.toNat : Int) = v := by
                    simp only [bs, List.getElem?_map, Option.map_eq_some_iff] at hv; exact hv
                  rw [show (⟨gx, 0, none⟩ : Addr).add j = ⟨gx, j, none⟩ from by unfold Addr.add; split <;> simp_all]
                  exact (HROW.out j c' hc').1
                have HHN : Hid (splice (bs E ++ zs (z - E.length)) jn (bs [92, x]) = bs (E ++ [92, x]) ++ zs (z - (E ++ [92, x]).length)) := by show _ = _; rw [← HEL.out]; exact fill_two E z 92 x (by have h := HEL.out; omega)
                have hfit : jn + (bs [92, x]).length ≤ (bs E ++ zs (z - E.length)).length := by have h := HEL.out; simp [bs, zs]; omega
                have HFIT := hide hfit
                clear hfit
                go_wp2_with fail
                go_region_law (refine step_copy_splice rfl (.tmp 105) (.tmp 111) 49 49 rfl 5 Tryz.underlying49 (by kernel_rfl) _ _ _ _ _ _ rfl rfl gb jn (bs E ++ zs (z - E.length)) 5 (HCP.out _ ⟨_, rfl⟩).1 (bs [92, x]) (by rw [bs_length]; exact (Nat.min_eq_left (a := 2) (by omega)).symm) (fun _ => ⟨by simp; omega, _, rfl, (HCP.out _ ⟨_, rfl⟩).2.2⟩) HFIT.out (by intro v hv; simp [bs] at hv; rcases hv with rfl | rfl <;> rfl) gb wA (HCP.out _ ⟨_, rfl⟩).2.1 (Nat.le_refl _) ?_; intro w4 HG4 hb4)
                have HH4 := HG4
                rw [HHN.out] at HH4
                have HB4 := hide hb4
                clear HG4 hb4
                have hbl : (bs [92, x]).length = 2 := rfl
                rw [hbl]
                go_wp2
                go_roundw
                case rel => exact ⟨k + 1, jn + 2, E ++ [92, x], by omega, by omega, by go_num, by go_num, hide (by have h := HEL.out; simp; omega), HST, HH4, HB4⟩
                case measure => simp [intOf]; omega
            · have hke : k = s.size := by omega
              have HEF : Hid (escF s.data.toList = E) := by show _ = _; rw [← HEE.out, List.take_of_length_le (by simp; omega)]
              have HEZ : Hid (E.length = z) := by show _ = _; rw [← HEF.out]; exact HM.out
              have hrw : wr.heap[gb]? = some (.cells (bs E).toArray 5 (0, 0)) := by
                have h := HHZ.out
                rw [HEZ.out, Nat.sub_self] at h
                rw [h]; simp [zs]
              have hcv := own_string (row_own (B := gb) (Nat.le_refl _) (by unfold maxLen; omega) HEZ.out hrw)
              clear hrw
              go_wp2
              go_ret
              exact ⟨ret_str (by rw [HEF.out]), fr_both HGW.out HGZ.out⟩
  · have hd : decide ((24 : Int) ≤ (s.size : Int)) = false := by simp; omega
    go_wp2_with fail
    go_loopw [5, 6, 10, 11] (fun nv av iv bv wr => ∃ (k z n : Nat) (a : Bool), k ≤ s.size ∧ iv = .int .i64 k ∧ nv = .int .i64 (z : Nat) ∧ av = .bool a ∧ wr = w.drewN n ∧ z ≤ 2 * s.size ∧ Hid (z = s.size + cntE (s.data.toList.take k)) ∧ Hid (a = decide (cntE (s.data.toList.take k) ≠ 0))) (fun _ _ iv _ _ => s.size - (intOf iv).toNat)
    case atStart => exact ⟨0, s.size, 0, false, by omega, rfl, rfl, rfl, rfl, by omega, hide rfl, hide rfl⟩
    case round =>
      obtain ⟨k, z, n, a, hk, rfl, rfl, rfl, rfl, hzs, HZ, HAA⟩ := hrel
      by_cases hlt : k < s.size
      · have HCS := hide (cntE_step s k hlt)
        have HTK := hide (cntE_take s (k + 1))
        have hc := byte_le s[k]
        have b1 : s[k].toNat < 256 := s[k].toNat_lt
        have b2 : ((s[k].toNat : Int) < 256) := by omega
        have b3 : ¬ ((s[k].toNat : Int) < 0) := by omega
        rcases (HRP.out.grown (fr_draws w n none)).at_byte s[k] with ⟨hE, hcl⟩ | ⟨hE, gx, cx, x, hesc, hcl, -, -⟩
        · have hn := neq_nil none 0 0
          rw [hE] at HCS
          have HCS2 : Hid (cntE (s.data.toList.take (k + 1)) = cntE (s.data.toList.take k)) := HCS.out
          clear hE
          go_wp2
          go_roundw
          case rel => exact ⟨k + 1, z, n, a, by omega, by go_num, rfl, rfl, rfl, hzs, by rw [HCS2.out]; exact HZ, by rw [HCS2.out]; exact HAA⟩
          case measure => simp [intOf]; omega
        · have hn := neq_nil (some ⟨gx, 0, none⟩) 2 cx
          rw [hE] at HCS
          have HCS2 : Hid (cntE (s.data.toList.take (k + 1)) = cntE (s.data.toList.take k) + 1) := HCS.out
          obtain ⟨z2, HZ2⟩ : ∃ z2, Hid (z2 = z + 1) := ⟨_, hide rfl⟩
          have hz2s : z2 ≤ 2 * s.size := by have h1 := HZ2.out; have h2 := HZ.out; have h3 := HTK.out; have h4 := HCS2.out; omega
          have hz2i : ((z : Int) + 1) = (z2 : Int) := by have h1 := HZ2.out; omega
          clear hE hesc
          go_wp2
          go_roundw
          case rel => exact ⟨k + 1, z2, n, true, by omega, by go_num, by rw [← hz2i], rfl, rfl, hz2s, hide (by have h1 := HZ2.out; have h2 := HZ.out; have h3 := HCS2.out; omega), hide (by rw [HCS2.out]; simp)⟩
          case measure => simp [intOf]; omega
      · have hke : k = s.size := by omega
        have HTA : Hid (cntE (s.data.toList.take k) = n1 + n2 + n3) := by show _ = _; rw [List.take_of_length_le (by simp; omega), HNN.out]
        rw [HTA.out] at HZ HAA
        have hge : s.size ≤ k := by omega
        clear hke
        have HGW : Hid (w.grownBy (w.drewN n) none) := fr_draws _ _ _
        have HRW := hide (HRP.out.grown HGW.out)
        generalize w.drewN n = wA at *
        cases a with
        | false =>
          have HZ0 : Hid (n1 + n2 + n3 = 0) := hide (by have h := HAA.out; simp at h; omega)
          go_wp2
          go_ret
          exact ⟨ret_str (HSAME.out HZ0.out).symm, HGW.out⟩
        | true =>
          have hzb : z ≤ 2147483648 := by have := HZ.out; omega
          have HM : Hid ((escF s.data.toList).length = z) := by show _ = _; rw [HML.out, HZ.out]
          obtain ⟨wm, hmk, hownM, hgM⟩ := run_make_full wA wA.heap.size 49 5 i0 (.int .u8 0) 1 (P := Tryz.prog) Tryz.underlying49 hi0 hz0 hz1 .i64 .i64 z (by rw [hz2]; omega) (by unfold maxLen; omega) (Nat.le_refl _)
          have HHP : Hid (wm.heap[wA.heap.size]? = some (.cells (bs [] ++ zs (z - ([] : List UInt8).length)).toArray 5 (0, 0))) := by
            show _ = _
            rcases hownM.2 with ⟨h0, _⟩ | ⟨g', cap', cur, hv', _, hg', _, _, hsz', htk⟩
            · cases h0
            · cases hv'
              have hm : (madeCells (Value.int .u8 0).cells (z * 1)).toList = zs z := by rw [Nat.mul_one]; exact toList_madeCells_one _ _
              have hc : cur.toList = zs z := by rw [← hm, ← htk, List.take_of_length_le (by simp; omega)]
              rw [hg', show (bs [] ++ zs (z - ([] : List UInt8).length)) = cur.toList from by rw [hc]; rfl, Array.toArray_toList]
          have hmk' : Sem.run Tryz.prog (Instr.makeSlice 49 (.int .i64 (z : Int)) (.int .i64 (z : Int))) wA = .ok (.slice (some ⟨wA.heap.size, 0, none⟩) z z) wm := hmk
          have HBM : Hid (Below wA.heap.size wA wm) := below_fr hgM
          clear hmk hownM hgM
          obtain ⟨gb, HGB⟩ : ∃ gb, Hid (wA.heap.size = gb) := ⟨_, hide rfl⟩
          rw [HGB.out] at hmk' HHP HBM
          have HLE : Hid (∀ k, (escF (s.data.toList.take k)).length ≤ z) := fun k => by
            rw [← HM.out]
            conv => rhs; rw [← List.take_append_drop k s.data.toList]
            unfold escF; rw [List.flatMap_append, List.length_append]; omega
          go_wp2_with fail
          go_loopw [13, 14, 15] (fun jv iv bv wz => ∃ (k jn : Nat) (E : List UInt8), k ≤ s.size ∧ jn ≤ z ∧ iv = .int .i64 k ∧ jv = .int .i64 (jn : Nat) ∧ Hid (E.length = jn) ∧ Hid (escF (s.data.toList.take k) = E) ∧ Hid (wz.heap[gb]? = some (.cells (bs E ++ zs (z - E.length)).toArray 5 (0, 0))) ∧ Hid (Below gb wA wz)) (fun _ iv _ _ => s.size - (intOf iv).toNat)
          case atStart => exact ⟨0, 0, [], by omega, by omega, rfl, rfl, hide rfl, hide rfl, HHP, HBM⟩
          case round =>
            obtain ⟨k, jn, E, hk, hj, rfl, rfl, HEL, HEE, HHZ, HBZ⟩ := hrel
            have HBZ' := HBZ.out
            rw [← HGB.out] at HBZ'
            have HGZ := hide (fr_below HBZ')
            clear HBZ' hmk'
            by_cases hlt : k < s.size
            · have HST : Hid (escF (s.data.toList.take (k + 1)) = E ++ escB s[k]) := by show _ = _; rw [List.take_succ_eq_append_getElem (by simpa using hlt), escF_snoc, HEE.out]; rfl
              have hc := byte_le s[k]
              have hbnd : E.length + (escB s[k]).length ≤ z := by have h := HLE.out (k + 1); rw [HST.out, List.length_append] at h; exact h
              rcases (HRW.out.grown HGZ.out).at_byte s[k] with ⟨hE, hcl⟩ | ⟨hE, gx, cx, x, hesc, hcl, hrow, hkd⟩
              · have HEP := hide (escB_plain hE)
                rw [HEP.out] at HST hbnd
                have hj2 : jn < z := by have h := HEL.out; simp at hbnd; omega
                have hn := neq_nil none 0 0
                have fz : wr.frozen? ⟨gb, jn, none⟩ = false := Lib.frozen_of_heap HHZ.out jn
                obtain ⟨old, hold⟩ : ∃ u, wr.cell? ⟨gb, jn, none⟩ = some u := by
                  rw [Lib.cell_of_heap HHZ.out]
                  exact ⟨_, Array.getElem?_eq_getElem (by simp [bs_length, zs]; have h := HEL.out; omega)⟩
                clear hE hbnd
                have HH2 : Hid ((wr.setCell ⟨gb, jn, none⟩ (.int .u8 (s[k].toNat : Int))).heap[gb]? = some (.cells (bs (E ++ [s[k]]) ++ zs (z - (E ++ [s[k]]).length)).toArray 5 (0, 0))) := by
                  show _ = _
                  rw [heap_setCell_same wr gb jn _ _ _ HHZ.out, List.setIfInBounds_toArray, ← HEL.out, fill_one E z s[k] (by have h := HEL.out; omega)]
                go_wp2
                go_roundw
                case rel => exact ⟨k + 1, jn + 1, E ++ [s[k]], by omega, by omega, by go_num, by go_num, hide (by have h := HEL.out; simp; omega), HST, HH2, HBZ.out.setCell (p := ⟨gb, jn, none⟩) (Nat.le_refl _) _⟩
                case measure => simp [intOf]; omega
              · have HESC := hide hesc
                rw [HESC.out] at HST hbnd
                have hj2 : jn + 2 ≤ z := by have h := HEL.out; simp at hbnd; omega
                have hn := neq_nil (some ⟨gx, 0, none⟩) 2 cx
                have HROW := hide hrow
                clear hE hbnd hrow hkd hesc
                have b1 : s[k].toNat < 256 := s[k].toNat_lt
                have b2 : ((s[k].toNat : Int) < 256) := by omega
                have b3 : ¬ ((s[k].toNat : Int) < 0) := by omega
                have HCP : Hid (∀ wx : World, (∃ n, wx = wr.drewN n) → (wx.heap[gb]? = some (.cells (bs E ++ zs (z - E.length)).toArray 5 (0, 0)) ∧ Below gb wA wx ∧ ∀ j v, (bs [92, x])[j]? = some v → wx.cell? ((⟨gx, 0, none⟩ : Addr).add j) = some v)) := by
                  rintro wx ⟨n, rfl⟩
                  refine ⟨HHZ.out, HBZ.out.trans ⟨rfl, rfl, rfl, Nat.le_refl _, fun _ _ => rfl⟩, fun j v hv => ?_⟩
                  obtain ⟨c', hc', rfl⟩ : ∃ c', ([92, x] : List UInt8)[j]? = some c' ∧ Value.int .u8 (c'.toNat : Int) = v := by
                    simp only [bs, List.getElem?_map, Option.map_eq_some_iff] at hv; exact hv
                  rw [show (⟨gx, 0, none⟩ : Addr).add j = ⟨gx, j, none⟩ from by unfold Addr.add; split <;> simp_all]
                  exact (HROW.out j c' hc').1
                have HHN : Hid (splice (bs E ++ zs (z - E.length)) jn (bs [92, x]) = bs (E ++ [92, x]) ++ zs (z - (E ++ [92, x]).length)) := by show _ = _; rw [← HEL.out]; exact fill_two E z 92 x (by have h := HEL.out; omega)
                have hfit : jn + (bs [92, x]).length ≤ (bs E ++ zs (z - E.length)).length := by have h := HEL.out; simp [bs, zs]; omega
                have HFIT := hide hfit
                clear hfit
                go_wp2_with fail
                go_region_law (refine step_copy_splice rfl (.tmp 105) (.tmp 111) 49 49 rfl 5 Tryz.underlying49 (by kernel_rfl) _ _ _ _ _ _ rfl rfl gb jn (bs E ++ zs (z - E.length)) 5 (HCP.out _ ⟨_, rfl⟩).1 (bs [92, x]) (by rw [bs_length]; exact (Nat.min_eq_left (a := 2) (by omega)).symm) (fun _ => ⟨by simp; omega, _, rfl, (HCP.out _ ⟨_, rfl⟩).2.2⟩) HFIT.out (by intro v hv; simp [bs] at hv; rcases hv with rfl | rfl <;> rfl) gb wA (HCP.out _ ⟨_, rfl⟩).2.1 (Nat.le_refl _) ?_; intro w4 HG4 hb4)
                have HH4 := HG4
                rw [HHN.out] at HH4
                have HB4 := hide hb4
                clear HG4 hb4
                have hbl : (bs [92, x]).length = 2 := rfl
                rw [hbl]
                go_wp2
                go_roundw
                case rel => exact ⟨k + 1, jn + 2, E ++ [92, x], by omega, by omega, by go_num, by go_num, hide (by have h := HEL.out; simp; omega), HST, HH4, HB4⟩
                case measure => simp [intOf]; omega
            · have hke : k = s.size := by omega
              have HEF : Hid (escF s.data.toList = E) := by show _ = _; rw [← HEE.out, List.take_of_length_le (by simp; omega)]
              have HEZ : Hid (E.length = z) := by show _ = _; rw [← HEF.out]; exact HM.out
              have hrw : wr.heap[gb]? = some (.cells (bs E).toArray 5 (0, 0)) := by
                have h := HHZ.out
                rw [HEZ.out, Nat.sub_self] at h
                rw [h]; simp [zs]
              have hcv := own_string (row_own (B := gb) (Nat.le_refl _) (by unfold maxLen; omega) HEZ.out hrw)
              clear hrw
              go_wp2
              go_ret
              exact ⟨ret_str (by rw [HEF.out]), fr_both HGW.out HGZ.out⟩
end Go.Proofs.YtoelacloghkooaaGreatDoor
