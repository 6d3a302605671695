/-
  The program's stream.Cursor, more: Counted; and words.readText.
-/
import Derived.Test.YtiinohajdibflaaCursor
namespace Go.Proofs.Ytiinohajdibflaa
open Go.ChangeShapes Go.WideShapes Go.ChangeAt Go.RowKit
set_option linter.unusedVariables false
set_option maxRecDepth 100000 in
set_option maxHeartbeats 400000 in
theorem ccounted_err (b : Nat) (s : ByteArray) (a y : Int) (w : World) (h : Cur w b s a y) (hy : (y == 0) = false) :
    Calls Try.prog 67 #[.pointer (some ⟨b, 0, none⟩)] w fun e w' => e = .returned (.string (str [])) ∧ Cur w' b s a y ∧ w.grownBy w' (some b) := by
  go_enter Try.func67, Try.ntmps67
  go_wp2_with fail
  refine (cnumber_err b s a y _ h hy).mono ?_
  rintro e w1 ⟨rfl, hc1, hg1⟩
  go_wp2_with fail
  refine (ctake_err b s a y 0 _ hc1 hy).mono ?_
  rintro e w2 ⟨rfl, hc2, hg2⟩
  go_wp2
  go_ret
  exact ⟨rfl, hc2, hg1.trans hg2⟩
/-- a text behind the number of its bytes, and the place behind it -/
def cnt (s : ByteArray) (a : Nat) : Option (List UInt8 × Nat) := match uv 0 0 (from_ s a) with
  | none => none
  | some (n, k) => if s.size - (a + k) < n then none else some ((from_ s (a + k)).take n, a + k + n)
/-- what 'Counted' leaves -/
def CntPost (b : Nat) (s : ByteArray) (r : Option (List UInt8 × Nat)) (e : Ending) (w' : World) : Prop :=
  match r with
  | none => e = .returned (.string (str [])) ∧ ∃ a z : Int, (z == 0) = false ∧ Cur w' b s a z
  | some (t, q) => e = .returned (.string (str t)) ∧ Cur w' b s (q : Nat) 0
set_option maxRecDepth 100000 in
set_option maxHeartbeats 400000 in
theorem ccounted_any (b a : Nat) (s : ByteArray) (w : World) (h : Cur w b s a 0) (ha : a ≤ s.size) (hs : s.size ≤ 140737488355328) :
    Calls Try.prog 67 #[.pointer (some ⟨b, 0, none⟩)] w fun e w' => CntPost b s (cnt s a) e w' ∧ w.grownBy w' (some b) := by
  cases hu : uv 0 0 (from_ s a) with
  | none =>
    have HU : Hid (uv 0 0 (from_ s a) = none) := hu
    have HR : Hid (cnt s a = none) := by show _ = _; unfold cnt; rw [hu]
    clear hu
    go_enter Try.func67, Try.ntmps67
    go_wp2_with fail
    refine (cnumber_any b a s _ h ha hs).mono ?_
    rintro e w1 ⟨hp, hg1⟩
    rw [HU.out] at hp
    obtain ⟨rfl, hc1⟩ := hp
    go_wp2_with fail
    refine (ctake_err b s a 4 0 _ hc1 (by decide)).mono ?_
    rintro e w2 ⟨rfl, hc2, hg2⟩
    go_wp2
    go_ret
    rw [HR.out]
    exact ⟨⟨rfl, _, _, by decide, hc2⟩, hg1.trans hg2⟩
  | some q =>
    obtain ⟨n, k⟩ := q
    obtain ⟨hk, hak, hn⟩ := uv_in s a n k ha hu
    have HU : Hid (uv 0 0 (from_ s a) = some (n, k)) := hu
    by_cases hlt : s.size - (a + k) < n
    · have HR : Hid (cnt s a = none) := by show _ = _; unfold cnt; rw [hu]; simp only; rw [if_pos hlt]
      clear hu
      go_enter Try.func67, Try.ntmps67
      go_wp2_with fail
      refine (cnumber_any b a s _ h ha hs).mono ?_
      rintro e w1 ⟨hp, hg1⟩
      rw [HU.out] at hp
      obtain ⟨rfl, hc1⟩ := hp
      go_wp2_with fail
      refine (ctake_out b (a + k) s n _ hc1 hak hs (Or.inr (by omega))).mono ?_
      rintro e w2 ⟨rfl, hc2, hg2⟩
      go_wp2
      go_ret
      rw [HR.out]
      exact ⟨⟨rfl, _, _, by decide, hc2⟩, hg1.trans hg2⟩
    · have HR : Hid (cnt s a = some ((from_ s (a + k)).take n, a + k + n)) := by show _ = _; unfold cnt; rw [hu]; simp only; rw [if_neg hlt]
      clear hu
      go_enter Try.func67, Try.ntmps67
      go_wp2_with fail
      refine (cnumber_any b a s _ h ha hs).mono ?_
      rintro e w1 ⟨hp, hg1⟩
      rw [HU.out] at hp
      obtain ⟨rfl, hc1⟩ := hp
      go_wp2_with fail
      refine (ctake_in b (a + k) n s _ hc1 hak hs (by omega)).mono ?_
      rintro e w2 ⟨rfl, hc2, hg2⟩
      go_wp2
      go_ret
      rw [HR.out]
      exact ⟨⟨rfl, hc2⟩, hg1.trans hg2⟩
/-- one text, and the place behind it -/
def one (s : ByteArray) (p : Nat) (ah : List UInt8) : Option (List UInt8 × Nat) := match uv 0 0 (from_ s p) with
  | none => none
  | some (head, k1) => match cnt s (p + k1) with
    | none => none
    | some (t, q) => if ah.length < head ∨ 200 < head + t.length then none else some (ah.take head ++ t, q)
theorem cnt_in (s : ByteArray) (a q : Nat) (t : List UInt8) (ha : a ≤ s.size) (h : cnt s a = some (t, q)) : a + t.length < q ∧ q ≤ s.size := by
  unfold cnt at h
  split at h
  · cases h
  · rename_i n k hu
    have := uv_in s a n k ha hu
    split at h
    · cases h
    · cases h
      rw [List.length_take, from_len]; omega
theorem one_in (s : ByteArray) (p q : Nat) (ah t : List UInt8) (hp : p ≤ s.size) (h : one s p ah = some (t, q)) : p < q ∧ q ≤ s.size ∧ t.length ≤ 200 := by
  unfold one at h
  split at h
  · cases h
  · rename_i head k1 hu
    have h1 := uv_in s p head k1 hp hu
    split at h
    · cases h
    · rename_i t' q' hc
      have h2 := cnt_in s _ _ _ h1.2.1 hc
      split at h
      · cases h
      · rename_i hn
        cases h
        rw [List.length_append, List.length_take]; omega
theorem loose_one (s : ByteArray) (n p : Nat) (ah : List UInt8) (hp : p ≤ s.size) : loose (n + 1) ah (from_ s p) = match one s p ah with
    | none => none
    | some (t, q) => (loose n t (from_ s q)).map (t :: ·) := by
  cases hu : uv 0 0 (from_ s p) with
  | none => rw [loose_none1 s n p ah hu]; unfold one; rw [hu]
  | some r =>
    obtain ⟨head, k1⟩ := r
    have h1 := uv_in s p head k1 hp hu
    unfold one
    rw [hu]
    simp only
    cases hv : uv 0 0 (from_ s (p + k1)) with
    | none => rw [loose_none2 s n p head k1 ah hu hv]; unfold cnt; rw [hv]
    | some r2 =>
      obtain ⟨rest, k2⟩ := r2
      have h2 := uv_in s (p + k1) rest k2 h1.2.1 hv
      by_cases c1 : s.size - (p + k1 + k2) < rest
      · rw [loose_none3 s n p head k1 rest k2 ah hu hv (Or.inl c1)]
        unfold cnt; rw [hv]; simp only; rw [if_pos c1]
      · have e : cnt s (p + k1) = some ((from_ s (p + k1 + k2)).take rest, p + k1 + k2 + rest) := by unfold cnt; rw [hv]; simp only; rw [if_neg c1]
        rw [e]
        simp only
        have el : ((from_ s (p + k1 + k2)).take rest).length = rest := by rw [List.length_take, from_len]; omega
        rw [el]
        by_cases c2 : ah.length < head ∨ 200 < head + rest
        · rw [if_pos c2, loose_none3 s n p head k1 rest k2 ah hu hv (Or.inr c2)]
        · rw [if_neg c2, loose_step s n p head k1 rest k2 ah hu (by omega) hv (by omega) (by omega)]
/-- what 'readText' leaves -/
def OnePost (b : Nat) (s : ByteArray) (r : Option (List UInt8 × Nat)) (e : Ending) (w' : World) : Prop :=
  match r with
  | none => (∃ x, e = .returned (.string x)) ∧ ∃ a z : Int, (z == 0) = false ∧ Cur w' b s a z
  | some (t, q) => e = .returned (.string (str t)) ∧ Cur w' b s (q : Nat) 0
set_option maxRecDepth 100000 in
set_option maxHeartbeats 1000000 in
theorem readText_any (b p : Nat) (s : ByteArray) (ah : List UInt8) (w : World) (h : Cur w b s p 0) (hp : p ≤ s.size) (hs : s.size ≤ 1073741824) (hah : ah.length ≤ 200) :
    Calls Try.prog 55 #[.pointer (some ⟨b, 0, none⟩), .string (str ah)] w fun e w' => OnePost b s (one s p ah) e w' ∧ w.grownBy w' (some b) := by
  obtain ⟨sa, HSA⟩ : ∃ sa, Hid (sa = str ah) := ⟨_, rfl⟩
  have hsa : sa.size ≤ 200 := by rw [HSA.out, str_size]; exact hah
  rw [← HSA.out]
  cases hu : uv 0 0 (from_ s p) with
  | none =>
    have HU : Hid (uv 0 0 (from_ s p) = none) := hu
    have HR : Hid (one s p ah = none) := by show _ = _; unfold one; rw [hu]
    clear hu
    go_enter Try.func55, Try.ntmps55
    go_wp2_with fail
    refine (cnumber_any b p s _ h hp (by omega)).mono ?_
    rintro e w1 ⟨hq, hg1⟩
    rw [HU.out] at hq
    obtain ⟨rfl, hc1⟩ := hq
    go_wp2_with fail
    refine (ccounted_err b s p 4 _ hc1 (by decide)).mono ?_
    rintro e w2 ⟨rfl, hc2, hg2⟩
    have hz0 : (str []).size = 0 := rfl
    go_wp2
    go_ret
    rw [HR.out]
    exact ⟨⟨⟨_, rfl⟩, _, _, by decide, hc2⟩, hg1.trans hg2⟩
  | some r =>
    obtain ⟨head, k1⟩ := r
    obtain ⟨hk, hak, hn⟩ := uv_in s p head k1 hp hu
    have HU : Hid (uv 0 0 (from_ s p) = some (head, k1)) := hu
    cases hv : cnt s (p + k1) with
    | none =>
      have HV : Hid (cnt s (p + k1) = none) := hv
      have HR : Hid (one s p ah = none) := by show _ = _; unfold one; rw [hu]; simp only; rw [hv]
      clear hu hv
      go_enter Try.func55, Try.ntmps55
      go_wp2_with fail
      refine (cnumber_any b p s _ h hp (by omega)).mono ?_
      rintro e w1 ⟨hq, hg1⟩
      rw [HU.out] at hq
      obtain ⟨rfl, hc1⟩ := hq
      go_wp2_with fail
      refine (ccounted_any b (p + k1) s _ hc1 hak (by omega)).mono ?_
      rintro e w2 ⟨hq2, hg2⟩
      rw [HV.out] at hq2
      obtain ⟨rfl, a2, z2, hz2, hc2⟩ := hq2
      have HG : Hid (w.grownBy w2 (some b)) := hg1.trans hg2
      clear hg1 hg2
      have hz0 : (str []).size = 0 := rfl
      by_cases hc : sa.size < head
      · have d1 : decide ((sa.size : Int) < (head : Int)) = true := by simp; omega
        go_wp2_with fail
        refine (cfail_later b s a2 4 z2 _ hc2 hz2).mono ?_
        rintro e w3 ⟨rfl, hc3, hg3⟩
        go_wp2
        go_ret
        rw [HR.out]
        exact ⟨⟨⟨_, rfl⟩, _, _, hz2, hc3⟩, HG.out.trans hg3⟩
      · go_wp2
        go_ret
        rw [HR.out]
        exact ⟨⟨⟨_, rfl⟩, _, _, hz2, hc2⟩, HG.out⟩
    | some r2 =>
      obtain ⟨t, q⟩ := r2
      obtain ⟨hq1, hq2⟩ := cnt_in s (p + k1) q t hak hv
      obtain ⟨st, HST⟩ : ∃ st, Hid (st = str t) := ⟨_, rfl⟩
      have hst : st.size = t.length := by rw [HST.out, str_size]
      have hsl : sa.size = ah.length := by rw [HSA.out, str_size]
      have HV : Hid (cnt s (p + k1) = some (t, q)) := hv
      by_cases hc : ah.length < head ∨ 200 < head + t.length
      · have HR : Hid (one s p ah = none) := by show _ = _; unfold one; rw [hu]; simp only; rw [hv]; simp only; rw [if_pos hc]
        have hst' : st.size ≤ 1073741824 := by omega
        have hcc : sa.size < head ∨ (head ≤ sa.size ∧ 200 < head + st.size) := by omega
        clear hu hv hst hsl hc
        rcases hcc with hcc | ⟨hc1, hc2⟩
        all_goals
          go_enter Try.func55, Try.ntmps55
          go_wp2_with fail
          refine (cnumber_any b p s _ h hp (by omega)).mono ?_
          rintro e w1 ⟨hq, hg1⟩
          rw [HU.out] at hq
          obtain ⟨rfl, hc1⟩ := hq
          go_wp2_with fail
          refine (ccounted_any b (p + k1) s _ hc1 hak (by omega)).mono ?_
          rintro e w2 ⟨hq2, hg2⟩
          rw [HV.out] at hq2
          obtain ⟨rfl, hc2⟩ := hq2
          rw [← HST.out]
          have HG : Hid (w.grownBy w2 (some b)) := hg1.trans hg2
          clear hg1 hg2
          go_wp2_with fail
          refine (cfail_first b s q 4 _ hc2).mono ?_
          rintro e w3 ⟨rfl, hc3, hg3⟩
          go_wp2
          go_ret
          rw [HR.out]
          exact ⟨⟨⟨_, rfl⟩, _, _, by decide, hc3⟩, HG.out.trans hg3⟩
      · have HR : Hid (one s p ah = some (ah.take head ++ t, q)) := by show _ = _; unfold one; rw [hu]; simp only; rw [hv]; simp only; rw [if_neg hc]
        have hc1 : head ≤ sa.size := by omega
        have hc2 : head + st.size ≤ 200 := by omega
        have HCUT : Hid (sa.extract 0 head = str (ah.take head)) := by
          show _ = _
          rw [HSA.out]
          apply WideShapes.bytes_inj
          rw [Lib.extract_data, data_str, data_str]; simp
        have hes : (sa.extract 0 head).size ≤ 200 := by rw [HCUT.out, str_size, List.length_take]; omega
        clear hu hv hst hsl hc
        go_enter Try.func55, Try.ntmps55
        go_wp2_with fail
        refine (cnumber_any b p s _ h hp (by omega)).mono ?_
        rintro e w1 ⟨hq, hg1⟩
        rw [HU.out] at hq
        obtain ⟨rfl, hd1⟩ := hq
        go_wp2_with fail
        refine (ccounted_any b (p + k1) s _ hd1 hak (by omega)).mono ?_
        rintro e w2 ⟨hq2, hg2⟩
        rw [HV.out] at hq2
        obtain ⟨rfl, hd2⟩ := hq2
        rw [← HST.out]
        have HG : Hid (w.grownBy w2 (some b)) := hg1.trans hg2
        clear hg1 hg2
        go_wp2
        go_ret
        rw [HR.out]
        exact ⟨⟨ret_str (by rw [HCUT.out, HST.out, str_app]), hd2⟩, HG.out⟩
end Go.Proofs.Ytiinohajdibflaa
