import Derived.Test.YtnnldpccagajbaaGreatDoorM07
import Derived.Test.YtnnldpccagajbaaGreatDoorM02
/-
  A3's two laws, out of a contract for the program's Sum. T: what of the world the contract leans on (a table at package level, if there is one).
-/
namespace Go.Proofs.YtnnldpccagajbaaGreatDoor
open Go.ChangeShapes Go.WideShapes Go.ChangeAt Go.RowKit
set_option linter.unusedVariables false
/-- the program's Sum answers the document's; what it leans on stays where old memory stays -/
structure SumSaid (T : World → Prop) : Prop where
  kept : ∀ w w' : World, T w → Below w.heap.size w w' → T w'
  call : ∀ (s : ByteArray) (w : World), s.size ≤ 140737488355328 → T w → Calls Tryz.prog 36 #[.string s] w fun e w' => e = .returned (.string (str (Crc.sum s.data.toList))) ∧ Below w.heap.size w w'
theorem turned_bool (s : ByteArray) (l : List UInt8) (f : Nat) (h : Near s.data.toList l f 32) (hf : f ≤ 8 * s.size) :
    (((str (Crc.sum s.data.toList)).toList == (str (Crc.sum (str l).data.toList)).toList) == ((str l).toList == s.toList)) = true := by
  rw [toList_str, toList_str, toList_str, toList_of, data_str]
  obtain ⟨h1, M, h2, h3⟩ := h
  by_cases e : l = s.data.toList
  · subst e; simp
  · have hne : ¬ Crc.sum s.data.toList = Crc.sum l := fun h => e (Crc.sum_turned _ _ M f h1.symm h2 (by simpa using hf) h3 h).symm
    have a1 : (Crc.sum s.data.toList == Crc.sum l) = false := by simp [hne]
    have a2 : (l == s.data.toList) = false := by simp [e]
    rw [a1, a2]; rfl
end Go.Proofs.YtnnldpccagajbaaGreatDoor

/-
  The program's Sum over a table of sixteen words, walked (practice).
-/
namespace Go.Proofs.YtnnldpccagajbaaGreatDoor
open Go.ChangeShapes Go.WideShapes Go.ChangeAt Go.RowKit
set_option linter.unusedVariables false
/-- what the table holds -/
def Tab (w : World) : Prop := ∀ i : Nat, i < 16 → w.cell? ⟨0, i, none⟩ = some (.int .u32 ((Crc.halves 4 i : Nat) : Int))
theorem Tab.kept (w w' : World) (h : Tab w) (hb : Below w.heap.size w w') : Tab w' := fun i hi => by
  rw [hb.cell (p := ⟨0, i, none⟩) (World.block_lt_of_cell? w ⟨0, i, none⟩ (h i hi))]; exact h i hi
theorem half_step (y : Nat) (hy : y < 4294967296) : bits .xor .u32 ((y : Int) / 16) ((Crc.halves 4 (y % 16) : Nat) : Int) = ((Crc.halves 4 y : Nat) : Int) := by
  have hl := Crc.halves_lt 4 (y % 16) (by omega)
  rw [show (y : Int) / 16 = ((y / 16 : Nat) : Int) from by omega, Crc.xor32 _ _ (by omega) hl, ← Crc.halves_four]
set_option maxRecDepth 100000 in
set_option maxHeartbeats 1000000 in
theorem sum_any (s : ByteArray) (w : World) (hs : s.size ≤ 140737488355328) (hT : Tab w) :
    Calls Tryz.prog 36 #[.string s] w fun e w' => e = .returned (.string (str (Crc.sum s.data.toList))) ∧ Below w.heap.size w w' := by
  have HT : Hid (Tab w) := hT
  clear hT
  go_enter Tryz.func36, Tryz.ntmps36
  go_wp2
  go_loop [3, 7] (fun x i => ∃ j y : Nat, j ≤ s.size ∧ i = .int .i64 j ∧ x = .int .u32 y ∧ y < 4294967296 ∧ Hid (y = Crc.crc Crc.start ((s.data.toList.take j).map UInt8.toNat))) (fun _ i => s.size - (intOf i).toNat)
  case atStart => exact ⟨0, 4294967295, by omega, rfl, rfl, by omega, rfl⟩
  case round =>
    obtain ⟨j, y, hj, rfl, rfl, hy, HY⟩ := hrel
    by_cases hlt : j < s.size
    · have hc := byte_le s[j]
      have hx : y ^^^ s[j].toNat < 4294967296 := Nat.xor_lt_two_pow (n := 32) hy (by have := s[j].toNat_lt; omega)
      have HN : Hid (Crc.halves 8 (y ^^^ s[j].toNat) = Crc.crc Crc.start ((s.data.toList.take (j + 1)).map UInt8.toNat)) := by
        show _ = _
        rw [take_snoc s j hlt, List.map_append, List.map_cons, List.map_nil, Crc.crc_snoc, ← HY.out]
      rw [Crc.halves_eight] at HN
      have e0 := Crc.xor32 y s[j].toNat hy (by have := s[j].toNat_lt; omega)
      generalize y ^^^ s[j].toNat = y0 at hx HN e0
      have b0 := Crc.halves_lt 4 y0 hx
      have b1 := Crc.halves_lt 4 (Crc.halves 4 y0) b0
      have a0 := Crc.and15 y0 hx
      have c0 := HT.out (y0 % 16) (Nat.mod_lt _ (by decide))
      have x0 := half_step y0 hx
      have a1 := Crc.and15 _ b0
      have c1 := HT.out (Crc.halves 4 y0 % 16) (Nat.mod_lt _ (by decide))
      have x1 := half_step _ b0
      have i0 : y0 % 16 < 16 := Nat.mod_lt _ (by decide)
      have i1 : Crc.halves 4 y0 % 16 < 16 := Nat.mod_lt _ (by decide)
      go_wp2
      go_round
      case rel => exact ⟨j + 1, _, by omega, by go_num, rfl, b1, HN.out⟩
      case measure => simp [intOf]; omega
    · have hje : j = s.size := by omega
      have HS : Hid (Crc.num s.data.toList = y ^^^ 4294967295) := by
        show _ = _
        unfold Crc.num
        rw [HY.out, hje, List.take_of_length_le (by simp)]; rfl
      have hn : bits .xor .u32 (y : Int) 4294967295 = ((y ^^^ 4294967295 : Nat) : Int) := Crc.xor32 y 4294967295 hy (by decide)
      have hl : y ^^^ 4294967295 < 4294967296 := Nat.xor_lt_two_pow (n := 32) hy (by omega)
      have kb := four_lit
      go_wp2
      go_ret
      refine ⟨ret_str ?_, (Below.refl _ _).alloc (Nat.le_refl _) _⟩
      rw [Crc.sum, HS.out, four_mod]
theorem sum_said : SumSaid Tab := ⟨Tab.kept, sum_any⟩
end Go.Proofs.YtnnldpccagajbaaGreatDoor

/-
  Rows of texts: their order, and the document's order, walked.
-/
namespace Go.Proofs.YtnnldpccagajbaaGreatDoor
open Go.ChangeShapes Go.WideShapes Go.ChangeAt Go.RowKit
set_option linter.unusedVariables false
/-- -1, 0 or 1: does a row stand ahead of another one? -/
def ordR : List (List UInt8) → List (List UInt8) → Int
  | x :: a, y :: b => if Op.bytesLess x y then -1 else if Op.bytesLess y x then 1 else ordR a b
  | _, _ => 0
theorem ordR_nil_left (b : List (List UInt8)) : ordR [] b = 0 := rfl
theorem ordR_nil_right (a : List (List UInt8)) : ordR a [] = 0 := by cases a <;> rfl
theorem less_eq {x y : List UInt8} (h1 : Op.bytesLess x y = false) (h2 : Op.bytesLess y x = false) : x = y := by
  have := less_or x y
  rw [h1, h2] at this
  simpa using this
theorem three_draws (w : World) (n m p : Nat) : ∃ k, ((w.drewN n).drewN m).drewN p = w.drewN k := ⟨n + m + p, by simp⟩
theorem gtr_less (x y : List UInt8) : (!(Op.bytesLess x y || x == y)) = Op.bytesLess y x := by rw [less_or]; simp
set_option maxRecDepth 100000 in
set_option maxHeartbeats 1000000 in
theorem order_any (va vb : Value) (la lb : List (List UInt8)) (w : World) (ha : Strs w va la) (hb : Strs w vb lb) (hl : la.length ≤ 140737488355328) (hl2 : lb.length ≤ 140737488355328) :
    Calls Tryz.prog 87 #[va, vb] w fun e w' => e = .returned (.int .i64 (ordR la lb)) ∧ ∃ n, w' = w.drewN n := by
  obtain ⟨a, cap, rfl, ha⟩ := ha
  obtain ⟨b, cap2, rfl, hb⟩ := hb
  rcases ha with ⟨rfl, _⟩ | ⟨ba, oa, rfl, ha⟩
  · go_enter Tryz.func87, Tryz.ntmps87
    go_wp2
    refine wp_loop_rounds 1 ?_
    rw [rounds_succ]
    go_wp2
    go_ret
    exact ⟨rfl, 0, rfl⟩
  · rcases hb with ⟨rfl, _⟩ | ⟨bb, ob, rfl, hb⟩
    · have HZ : Hid (ordR la [] = 0) := ordR_nil_right la
      clear ha
      go_enter Tryz.func87, Tryz.ntmps87
      go_wp2
      refine wp_loop_rounds 1 ?_
      rw [rounds_succ]
      go_wp2
      all_goals go_ret
      all_goals exact ⟨ret_int HZ.out.symm, 0, rfl⟩
    · have HA : Hid (∀ (i : Nat) (x : List UInt8), la[i]? = some x → w.cell? ⟨ba, oa + i, none⟩ = some (.string (str x))) := ha
      have HB : Hid (∀ (i : Nat) (x : List UInt8), lb[i]? = some x → w.cell? ⟨bb, ob + i, none⟩ = some (.string (str x))) := hb
      clear ha hb
      go_enter Tryz.func87, Tryz.ntmps87
      go_wp2
      go_loopw [5] (fun i wr => ∃ k n : Nat, k ≤ la.length ∧ k ≤ lb.length ∧ i = .int .i64 k ∧ wr = w.drewN n ∧ Hid (ordR la lb = ordR (la.drop k) (lb.drop k))) (fun i _ => la.length - (intOf i).toNat)
      case atStart => exact ⟨0, 0, by omega, by omega, rfl, rfl, by simp [Hid]⟩
      case round =>
        obtain ⟨k, n, hk, hk2, rfl, rfl, HT⟩ := hrel
        by_cases hlt : k < la.length
        · by_cases hlt2 : k < lb.length
          · have c1 := HA.out k la[k] (get_at hlt)
            have c2 := HB.out k lb[k] (get_at hlt2)
            have HU : Hid (ordR la lb = if Op.bytesLess la[k] lb[k] then -1 else if Op.bytesLess lb[k] la[k] then 1 else ordR (la.drop (k + 1)) (lb.drop (k + 1))) := by
              show _ = _; rw [HT.out, drop_row la k hlt, drop_row lb k hlt2]; rfl
            cases h1 : Op.bytesLess la[k] lb[k] with
            | true =>
              have HE : Hid (ordR la lb = -1) := by show _ = _; rw [HU.out, h1]; rfl
              have hs1 : Op.bytesLess (str la[k]).toList (str lb[k]).toList = true := by rw [toList_str, toList_str]; exact h1
              clear h1 HU
              generalize str la[k] = sa at *
              generalize str lb[k] = sb at *
              go_wp2
              go_quiet (fail)
              go_wp2
              go_ret
              refine ⟨ret_int HE.out.symm, ?_⟩
              first | exact ⟨_, rfl⟩ | exact two_draws _ _ _ | exact three_draws _ _ _ _
            | false =>
              have hs1 : Op.bytesLess (str la[k]).toList (str lb[k]).toList = false := by rw [toList_str, toList_str]; exact h1
              cases h2 : Op.bytesLess lb[k] la[k] with
              | true =>
                have HE : Hid (ordR la lb = 1) := by show _ = _; rw [HU.out, h1, h2]; rfl
                have hs2 : ((str la[k]).toList == (str lb[k]).toList) = false := by
                  rw [toList_str, toList_str, beq_eq_false_iff_ne]; intro he; rw [he, less_irrefl] at h2; cases h2
                clear h1 h2 HU
                generalize str la[k] = sa at *
                generalize str lb[k] = sb at *
                go_wp2
                go_quiet (fail)
                go_wp2
                go_quiet (fail)
                go_wp2
                go_ret
                refine ⟨ret_int HE.out.symm, ?_⟩
                first | exact ⟨_, rfl⟩ | exact two_draws _ _ _ | exact three_draws _ _ _ _
              | false =>
                have HE : Hid (ordR la lb = ordR (la.drop (k + 1)) (lb.drop (k + 1))) := by show _ = _; rw [HU.out, h1, h2]; rfl
                have he := less_eq h1 h2
                have hs2 : ((str la[k]).toList == (str lb[k]).toList) = true := by rw [he]; simp
                clear h1 h2 HU he
                generalize str la[k] = sa at *
                generalize str lb[k] = sb at *
                go_wp2
                go_quiet (fail)
                go_wp2
                go_quiet (fail)
                go_wp2
                go_roundw
                case rel => exact ⟨k + 1, _, by omega, by omega, by go_num, rfl, HE⟩
                case measure => simp [intOf]; omega
          · have HE : Hid (ordR la lb = 0) := by show _ = _; rw [HT.out, List.drop_of_length_le (l := lb) (by omega)]; exact ordR_nil_right _
            go_wp2
            go_ret
            exact ⟨ret_int HE.out.symm, _, rfl⟩
        · have HE : Hid (ordR la lb = 0) := by show _ = _; rw [HT.out, List.drop_of_length_le (l := la) (by omega)]; rfl
          go_wp2
          go_ret
          exact ⟨ret_int HE.out.symm, _, rfl⟩
theorem ordR_tri (a b : List (List UInt8)) : ordR a b = -1 ∨ ordR a b = 0 ∨ ordR a b = 1 := by
  induction a generalizing b with
  | nil => right; left; rfl
  | cons x a ih =>
    cases b with
    | nil => right; left; rfl
    | cons y b =>
      rw [ordR]; split
      · left; rfl
      · split
        · right; right; rfl
        · exact ih b
theorem less_asymm {x y : List UInt8} (h : Op.bytesLess x y = true) : Op.bytesLess y x = false := by
  cases h2 : Op.bytesLess y x with
  | false => rfl
  | true => have := less_trans x y x h h2; rw [less_irrefl] at this; cases this
theorem ordR_neg (a b : List (List UInt8)) : ordR b a = - ordR a b := by
  induction a generalizing b with
  | nil => rw [ordR_nil_right]; rfl
  | cons x a ih =>
    cases b with
    | nil => rfl
    | cons y b =>
      simp only [ordR]
      cases h1 : Op.bytesLess x y with
      | true => simp [less_asymm h1]
      | false =>
        cases h2 : Op.bytesLess y x with
        | true => simp
        | false => simpa using ih b
theorem ordR_eq (a b : List (List UInt8)) (hl : a.length = b.length) (h : ordR a b = 0) : a = b := by
  induction a generalizing b with
  | nil => cases b with
    | nil => rfl
    | cons _ _ => simp at hl
  | cons x a ih =>
    cases b with
    | nil => simp at hl
    | cons y b =>
      rw [ordR] at h
      cases h1 : Op.bytesLess x y with
      | true => rw [h1] at h; simp at h
      | false =>
        cases h2 : Op.bytesLess y x with
        | true => rw [h1, h2] at h; simp at h
        | false =>
          rw [h1, h2] at h
          rw [less_eq h1 h2, ih b (by simpa using hl) (by simpa using h)]
theorem ordR_self (a : List (List UInt8)) : ordR a a = 0 := by
  have := ordR_neg a a; omega
theorem ordR_trans (a b c : List (List UInt8)) (h1 : ordR a b = -1) (h2 : ordR b c = -1) (hl : a.length = b.length) (hl2 : b.length = c.length) : ordR a c = -1 := by
  induction a generalizing b c with
  | nil => simp [ordR] at h1
  | cons x a ih =>
    cases b with
    | nil => simp at hl
    | cons y b =>
      cases c with
      | nil => simp at hl2
      | cons z c =>
        rw [ordR] at h1 h2 ⊢
        cases a1 : Op.bytesLess x y with
        | true =>
          cases b1 : Op.bytesLess y z with
          | true => rw [less_trans x y z a1 b1]; rfl
          | false =>
            cases b2 : Op.bytesLess z y with
            | true => rw [b1, b2] at h2; simp at h2
            | false => rw [← less_eq b1 b2, a1]; rfl
        | false =>
          cases a2 : Op.bytesLess y x with
          | true => rw [a1, a2] at h1; simp at h1
          | false =>
            have e := less_eq a1 a2
            subst e
            rw [a1] at h1
            simp only [Bool.false_eq_true, if_false] at h1
            cases b1 : Op.bytesLess x z with
            | true => rfl
            | false =>
              cases b2 : Op.bytesLess z x with
              | true => rw [b1, b2] at h2; simp at h2
              | false =>
                rw [b1, b2] at h2
                simp only [Bool.false_eq_true, if_false] at h2 ⊢
                exact ih b c h1 h2 (by simpa using hl) (by simpa using hl2)
/-- rows of one length that rise -/
def Rises (m : Nat) (L : List (List (List UInt8))) : Prop := (∀ r ∈ L, r.length = m) ∧ ∀ (i j : Nat) (a b : List (List UInt8)), i < j → L[i]? = some a → L[j]? = some b → ordR a b = -1
/-- how many stand ahead of a row -/
def ahead (L : List (List (List UInt8))) (r : List (List UInt8)) : Nat := (L.takeWhile fun a => decide (ordR a r = -1)).length
/-- a row put in its place, if it is not there -/
def ins (L : List (List (List UInt8))) (r : List (List UInt8)) : List (List (List UInt8)) := if r ∈ L then L else L.take (ahead L r) ++ r :: L.drop (ahead L r)
theorem ahead_of (L : List (List (List UInt8))) (r : List (List UInt8)) (k : Nat) (hk : k ≤ L.length) (h1 : ∀ i a, i < k → L[i]? = some a → ordR a r = -1) (h2 : ∀ a, L[k]? = some a → ordR a r ≠ -1) : ahead L r = k := by
  unfold ahead
  induction L generalizing k with
  | nil => simp at hk; subst hk; rfl
  | cons x L ih =>
    cases k with
    | zero =>
      have := h2 x (by simp)
      rw [List.takeWhile_cons]; simp [this]
    | succ k =>
      have := h1 0 x (by omega) (by simp)
      rw [List.takeWhile_cons]; simp only [this, decide_true, if_true, List.length_cons]
      rw [ih k (by simpa using hk) (fun i a hi ha => h1 (i + 1) a (by omega) (by simpa using ha)) (fun a ha => h2 a (by simpa using ha))]
end Go.Proofs.YtnnldpccagajbaaGreatDoor

/-
  Rows in memory; the document's place, walked.
-/
namespace Go.Proofs.YtnnldpccagajbaaGreatDoor
open Go.ChangeShapes Go.WideShapes Go.ChangeAt Go.RowKit
set_option linter.unusedVariables false
/-- a slice that holds values -/
def Vals (w : World) (v : Value) (vs : List Value) : Prop :=
  ∃ (a : Option Addr) (cap : Nat), v = .slice a vs.length cap ∧ ((vs = [] ∧ (a = none → cap = 0)) ∨ ∃ b off, a = some ⟨b, off, none⟩ ∧ ∀ (i : Nat) (x : Value), vs[i]? = some x → w.cell? ⟨b, off + i, none⟩ = some x)
/-- a slice of slices that reads as rows -/
def Rows2 (w : World) (v : Value) (vs : List Value) (L : List (List (List UInt8))) : Prop :=
  Vals w v vs ∧ vs.length = L.length ∧ ∀ (i : Nat) (x : Value) (r : List (List UInt8)), vs[i]? = some x → L[i]? = some r → Strs w x r
theorem val_at {vs : List Value} {k : Nat} (h : k < vs.length) : vs[k]? = some vs[k] := List.getElem?_eq_getElem h
theorem row_at {L : List (List (List UInt8))} {k : Nat} (h : k < L.length) : L[k]? = some L[k] := List.getElem?_eq_getElem h
theorem lt_of_some {α : Type} {l : List α} {k : Nat} {x : α} (h : l[k]? = some x) : k < l.length := by
  rcases Nat.lt_or_ge k l.length with h1 | h1
  · exact h1
  · rw [List.getElem?_eq_none h1] at h; cases h
theorem ahead_mem (m : Nat) (L : List (List (List UInt8))) (r : List (List UInt8)) (hL : Rises m L) (hr : r.length = m) (k : Nat) (h1 : ∀ i a, i < k → L[i]? = some a → ordR a r = -1) (h2 : ∀ i a, k ≤ i → L[i]? = some a → ordR a r ≠ -1) :
    (r ∈ L) ↔ ∃ a, L[k]? = some a ∧ ordR a r = 0 := by
  constructor
  · intro hm
    obtain ⟨j, hj⟩ := List.mem_iff_getElem?.1 hm
    have h0 := ordR_self r
    have hjk : k ≤ j := by
      rcases Nat.lt_or_ge j k with h | h
      · have := h1 j r h hj; omega
      · exact h
    rcases Nat.eq_or_lt_of_le hjk with e | e
    · subst e; exact ⟨r, hj, h0⟩
    · have hk : k < L.length := by have := lt_of_some hj; omega
      have := hL.2 k j _ r e (row_at hk) hj
      exact absurd this (h2 k _ (Nat.le_refl _) (row_at hk))
  · rintro ⟨a, ha, h0⟩
    have hma := List.mem_of_getElem? ha
    have := ordR_eq a r (by rw [hL.1 a hma, hr]) h0
    rw [← this]; exact hma
set_option maxRecDepth 100000 in
set_option maxHeartbeats 2000000 in
theorem place_any (v vr : Value) (vs : List Value) (L : List (List (List UInt8))) (r : List (List UInt8)) (m : Nat) (w : World) (h : Rows2 w v vs L) (hr : Strs w vr r) (hL : Rises m L) (hm : r.length = m) (hl : L.length ≤ 1099511627776) (hml : m ≤ 140737488355328) :
    Calls Tryz.prog 63 #[v, vr] w fun e w' => e = .returned (.tuple #[.int .i64 (ahead L r : Nat), .bool (decide (r ∈ L))]) ∧ ∃ n, w' = w.drewN n := by
  obtain ⟨⟨a, cap, rfl, hv⟩, hlen, hin⟩ := h
  have HIN : Hid (∀ (i : Nat) (x : Value) (r : List (List UInt8)), vs[i]? = some x → L[i]? = some r → Strs w x r) := hin
  have HRI : Hid (Rises m L) := hL
  have HR : Hid (Strs w vr r) := hr
  have HM : Hid (r.length = m) := hm
  have HLE : Hid (vs.length = L.length) := hlen
  clear hin hL hr hm
  rcases hv with ⟨rfl, _⟩ | ⟨b, off, rfl, hc⟩
  · have hL0 : L = [] := List.eq_nil_of_length_eq_zero (by simpa using hlen.symm)
    subst hL0
    clear hlen
    go_enter Tryz.func63, Tryz.ntmps63
    go_wp2
    refine wp_loop_rounds 1 ?_
    rw [rounds_succ]
    go_wp2
    go_ret2
    exact ⟨rfl, 0, rfl⟩
  · have HC : Hid (∀ (i : Nat) (x : Value), vs[i]? = some x → w.cell? ⟨b, off + i, none⟩ = some x) := hc
    clear hc
    rw [hlen]
    clear hlen
    go_enter Tryz.func63, Tryz.ntmps63
    go_wp2
    go_loopw [6, 7] (fun lov hiv wr => ∃ lo hi n : Nat, lo ≤ hi ∧ hi ≤ L.length ∧ lov = .int .i64 lo ∧ hiv = .int .i64 hi ∧ wr = w.drewN n ∧ Hid (∀ i a, i < lo → L[i]? = some a → ordR a r = -1) ∧ Hid (∀ i a, hi ≤ i → L[i]? = some a → ordR a r ≠ -1)) (fun lov hiv _ => (intOf hiv).toNat - (intOf lov).toNat)
    case atStart => exact ⟨0, L.length, 0, by omega, by omega, rfl, rfl, rfl, fun i a hi => absurd hi (by omega), fun i a hi ha => absurd (lt_of_some ha) (by omega)⟩
    case round =>
      obtain ⟨lo, hi, n, hlo, hhi, rfl, rfl, rfl, H1, H2⟩ := hrel
      by_cases hlt : lo < hi
      · have hmid : (lo + hi) / 2 < L.length := by omega
        have hvm : (lo + hi) / 2 < vs.length := by have := HLE.out; omega
        have c1 := HC.out ((lo + hi) / 2) vs[(lo + hi) / 2] (val_at hvm)
        have hst := HIN.out ((lo + hi) / 2) _ _ (val_at hvm) (row_at hmid)
        have hml2 : L[(lo + hi) / 2].length ≤ 140737488355328 := by rw [HRI.out.1 _ (List.getElem_mem hmid)]; exact hml
        obtain ⟨x, HX⟩ : ∃ x, Hid (x = vs[(lo + hi) / 2]) := ⟨vs[(lo + hi) / 2], rfl⟩
        rw [← HX.out] at c1 hst
        obtain ⟨q, HQ⟩ : ∃ q, Hid (q = L[(lo + hi) / 2]) := ⟨L[(lo + hi) / 2], rfl⟩
        rw [← HQ.out] at hst hml2
        have HST : Hid (Strs w x q) := hst
        obtain ⟨ax, capx, rfl, _⟩ := hst
        go_wp2_with fail
        refine (order_any _ vr q r _ (HST.out.drewN _) (HR.out.drewN _) hml2 (by rw [HM.out]; exact hml)).mono ?_
        rintro e w2 ⟨rfl, hd2⟩
        obtain ⟨n2, rfl⟩ := hd2
        by_cases ho : ordR q r = -1
        · have ho' : ordR q r < 0 := by omega
          have H1' : Hid (∀ i a, i < (lo + hi) / 2 + 1 → L[i]? = some a → ordR a r = -1) := by
            intro i a hi' ha
            rcases Nat.lt_or_ge i ((lo + hi) / 2) with h | h
            · have hal := HRI.out.1 a (List.mem_of_getElem? ha)
              have hql := HRI.out.1 _ (List.getElem_mem hmid)
              have hlt2 := HRI.out.2 i _ a _ h ha (row_at hmid)
              rw [HQ.out] at ho
              exact ordR_trans a _ r hlt2 ho (by rw [hal, hql]) (by rw [hql, HM.out])
            · obtain rfl : i = (lo + hi) / 2 := by omega
              rw [row_at hmid] at ha
              cases ha
              rw [← HQ.out]; exact ho
          clear ho
          generalize ordR q r = oq at *
          go_wp2
          go_roundw
          case rel => exact ⟨(lo + hi) / 2 + 1, hi, _, by omega, by omega, by go_num, rfl, rfl, H1', H2⟩
          case measure => simp [intOf]; omega
        · have ho' : 0 ≤ ordR q r := by have := ordR_tri q r; omega
          have H2' : Hid (∀ i a, (lo + hi) / 2 ≤ i → L[i]? = some a → ordR a r ≠ -1) := by
            intro i a hi' ha hneg
            rcases Nat.eq_or_lt_of_le hi' with h | h
            · subst h
              rw [row_at hmid] at ha
              cases ha
              exact ho (by rw [HQ.out]; exact hneg)
            · have hal := HRI.out.1 a (List.mem_of_getElem? ha)
              have hql := HRI.out.1 _ (List.getElem_mem hmid)
              have hlt2 := HRI.out.2 _ i _ a h (row_at hmid) ha
              exact ho (by rw [HQ.out]; exact ordR_trans _ a r hlt2 hneg (by rw [hal, hql]) (by rw [hal, HM.out]))
          clear ho
          generalize ordR q r = oq at *
          go_wp2
          go_roundw
          case rel => exact ⟨lo, (lo + hi) / 2, _, by omega, by omega, rfl, by go_num, rfl, H1, H2'⟩
          case measure => simp [intOf]; omega
      · obtain rfl : lo = hi := by omega
        have HAH : Hid (ahead L r = lo) := ahead_of L r lo (by omega) H1.out (fun a ha => H2.out lo a (Nat.le_refl _) ha)
        have hmem := ahead_mem m L r HRI.out HM.out lo H1.out H2.out
        by_cases hin : lo < L.length
        · have hvm : lo < vs.length := by have := HLE.out; omega
          have c1 := HC.out lo vs[lo] (val_at hvm)
          have hst := HIN.out lo _ _ (val_at hvm) (row_at hin)
          have hml2 : L[lo].length ≤ 140737488355328 := by rw [HRI.out.1 _ (List.getElem_mem hin)]; exact hml
          obtain ⟨x, HX⟩ : ∃ x, Hid (x = vs[lo]) := ⟨vs[lo], rfl⟩
          rw [← HX.out] at c1 hst
          obtain ⟨q, HQ⟩ : ∃ q, Hid (q = L[lo]) := ⟨L[lo], rfl⟩
          rw [← HQ.out] at hst hml2
          have HST : Hid (Strs w x q) := hst
          have HME : Hid (decide (r ∈ L) = (ordR q r == 0)) := by
            show _ = _
            apply Bool.eq_iff_iff.2
            rw [decide_eq_true_iff, hmem, beq_iff_eq]
            constructor
            · rintro ⟨a, ha, h0⟩; rw [row_at hin] at ha; cases ha; rw [HQ.out]; exact h0
            · intro h0; exact ⟨_, row_at hin, by rw [← HQ.out]; exact h0⟩
          clear hmem
          obtain ⟨ax, capx, rfl, _⟩ := hst
          go_wp2_with fail
          refine (order_any _ vr q r _ (HST.out.drewN _) (HR.out.drewN _) hml2 (by rw [HM.out]; exact hml)).mono ?_
          rintro e w2 ⟨rfl, hd2⟩
          obtain ⟨n2, rfl⟩ := hd2
          go_wp2
          go_ret2
          refine ⟨by rw [HAH.out, HME.out]; rfl, ?_⟩
          first | exact ⟨_, rfl⟩ | exact two_draws _ _ _
        · have HME : Hid (decide (r ∈ L) = false) := by
            show _ = _
            rw [decide_eq_false_iff_not, hmem]
            rintro ⟨a, ha, _⟩
            exact absurd (lt_of_some ha) hin
          clear hmem
          go_wp2
          go_ret2
          refine ⟨by rw [HAH.out, HME.out]; rfl, ?_⟩
          first | exact ⟨_, rfl⟩ | exact two_draws _ _ _
end Go.Proofs.YtnnldpccagajbaaGreatDoor
