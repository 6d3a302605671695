import Derived.Test.YtgllfcoafgphbaaGreatDoorM03
/-
  The document's Reader in whatever state: next, fail, is, got, must.
-/
namespace Go.Proofs.YtgllfcoafgphbaaGreatDoor
open Go.ChangeShapes Go.WideShapes Go.ChangeAt Go.RowKit
set_option linter.unusedVariables false
/-- a reader holds a state -/
def RP (w : World) (b : Nat) (s : ByteArray) (st : RSt) : Prop := RS w b s (st.i : Nat) (st.kd : Nat) st.tx (st.a : Nat) (st.e : Nat) (st.x : Nat)
theorem at0_get (s : ByteArray) (p : Nat) (h : p < s.size) : at0 s p = s[p] := by unfold at0; rw [dif_pos h]
theorem word_le (s : ByteArray) (p : Nat) (h : p ≤ s.size) : p + (wordAt s.data.toList p).length ≤ s.size := by
  have h1 : (wordAt s.data.toList p).length ≤ (s.data.toList.drop p).length := (List.takeWhile_prefix _).length_le
  rw [List.length_drop] at h1
  have : s.data.toList.length = s.size := by simp
  omega
theorem signLen_le (s : ByteArray) (p : Nat) (h : p < s.size) (c : UInt8) : p + signLen s p c ≤ s.size := by unfold signLen; split <;> omega
theorem sgn_i (s : ByteArray) (p : Nat) (h : p ≤ s.size) : (sgn s p).i ≤ s.size := by
  rcases sgn_cases s p with ⟨_, e, _⟩ | ⟨_, _, _, e⟩ | ⟨h2, _, e, _⟩
  · rw [e]; exact h
  · rw [e]; exact word_le s p h
  · rw [e]
    have := signLen_le s p h2 (at0 s p)
    show (if _ then _ else _) ≤ _
    split <;> omega
theorem skip_le (s : ByteArray) (i : Nat) (h : i ≤ s.size) : skipTo s.data.toList i ≤ s.size := by
  have e : s.data.toList.length = s.size := by simp
  rw [← e]; exact skipTo_le _ _ (by rw [e]; exact h)
theorem nextS_i (s : ByteArray) (st : RSt) (h : st.i ≤ s.size) : (nextS s st).i ≤ s.size := by
  unfold nextS; split
  · exact sgn_i s _ (skip_le s _ h)
  · exact skip_le s _ h
set_option maxRecDepth 100000 in
theorem rnext_any (b : Nat) (s : ByteArray) (st : RSt) (w : World) (h : RP w b s st) (hi : st.i ≤ s.size) (hs : s.size ≤ 1073741824) :
    Calls Tryz.prog 35 #[.pointer (some ⟨b, 0, none⟩)] w fun en w' => en = .returned (.tuple #[]) ∧ RP w' b s (nextS s st) ∧ RFx w w' b := by
  obtain ⟨i, kd, tx, a, e, x⟩ := st
  unfold RP at h
  simp only [] at h hi
  by_cases he : e = 0
  · subst he
    have hn : nextS s ⟨i, kd, tx, a, 0, x⟩ = { sgn s (skipTo s.data.toList i) with x := x } := by unfold nextS; rw [if_pos rfl]
    rw [hn]
    have hle := skip_le s i hi
    generalize hp : skipTo s.data.toList i = p at hle
    rcases sgn_cases s p with ⟨h2, e, _⟩ | ⟨h2, hb, h95, e⟩ | ⟨h2, hb, e, _⟩
    · rw [e]
      refine (rnext_end b s i kd tx a 0 x w h hi hs (Or.inr (by rw [hp]; exact h2)) p hp.symm).mono ?_
      rintro en w' ⟨rfl, g, f⟩
      exact ⟨rfl, g, f⟩
    · rw [e]
      rw [at0_get s p h2] at hb h95
      refine (rnext_word b s i kd tx a x w h hi hs p hp.symm h2 hb h95 _ rfl).mono ?_
      rintro en w' ⟨rfl, g, f⟩
      exact ⟨rfl, g, f⟩
    · rw [e]
      rw [at0_get s p h2] at hb ⊢
      refine (rnext_sign b s i kd tx a x w h hi hs p hp.symm h2 hb _ rfl).mono ?_
      rintro en w' ⟨rfl, g, f⟩
      refine ⟨rfl, ?_, f⟩
      unfold RP
      exact g
  · have hn : nextS s ⟨i, kd, tx, a, e, x⟩ = ⟨skipTo s.data.toList i, 0, ByteArray.empty, skipTo s.data.toList i, e, x⟩ := by unfold nextS; rw [if_neg he]
    rw [hn]
    refine (rnext_end b s i kd tx a e x w h hi hs (Or.inl (by omega)) _ rfl).mono ?_
    rintro en w' ⟨rfl, g, f⟩
    exact ⟨rfl, g, f⟩
theorem RS.set5 {w : World} {b : Nat} {s : ByteArray} {i kd : Int} {tx : ByteArray} {a e x : Int} (h : RS w b s i kd tx a e x) (j : Int) : RS (w.setCell ⟨b, 5, none⟩ (.int .i64 j)) b s i kd tx a j x := by
  constructor <;> first
    | (rw [World.cell?_setCell_same _ _ _ h.c5]; done)
    | (rw [World.cell?_setCell_other _ _ _ _ (by simp)]; first | exact h.c0 | exact h.c1 | exact h.c2 | exact h.c3 | exact h.c4 | exact h.c6)
    | (rw [World.frozen?_setCell]; first | exact h.f1 | exact h.f2 | exact h.f3 | exact h.f4 | exact h.f5 | exact h.f6)
theorem RS.set6 {w : World} {b : Nat} {s : ByteArray} {i kd : Int} {tx : ByteArray} {a e x : Int} (h : RS w b s i kd tx a e x) (j : Int) : RS (w.setCell ⟨b, 6, none⟩ (.int .i64 j)) b s i kd tx a e j := by
  constructor <;> first
    | (rw [World.cell?_setCell_same _ _ _ h.c6]; done)
    | (rw [World.cell?_setCell_other _ _ _ _ (by simp)]; first | exact h.c0 | exact h.c1 | exact h.c2 | exact h.c3 | exact h.c4 | exact h.c5)
    | (rw [World.frozen?_setCell]; first | exact h.f1 | exact h.f2 | exact h.f3 | exact h.f4 | exact h.f5 | exact h.f6)
theorem rfailS_any (b : Nat) (s : ByteArray) (st : RSt) (e x : Nat) (w : World) (h : RP w b s st) :
    Calls Tryz.prog 36 #[.pointer (some ⟨b, 0, none⟩), .int .i64 (e : Nat), .int .i64 (x : Nat)] w fun en w' => en = .returned (.tuple #[]) ∧ RP w' b s (failS e x st) ∧ RFx w w' b := by
  refine (rfail_any b e x st.e st.x w h.c5 h.c6 h.f5 h.f6).mono ?_
  rintro en w' ⟨rfl, rfl⟩
  unfold failS
  by_cases h0 : st.e = 0
  · have h0' : (st.e : Int) = 0 := by omega
    rw [if_pos h0, if_pos h0']
    refine ⟨rfl, ?_, (RFx.set _ _ _ _).trans (RFx.set _ _ _ _)⟩
    unfold RP
    exact (RS.set5 h _).set6 _
  · have h0' : ¬ (st.e : Int) = 0 := by omega
    rw [if_neg h0, if_neg h0']
    exact ⟨rfl, h, RFx.refl _ _⟩
set_option maxRecDepth 100000 in
set_option maxHeartbeats 1000000 in
theorem ris_any (b : Nat) (s sg : ByteArray) (st : RSt) (w : World) (h : RP w b s st) :
    Calls Tryz.prog 73 #[.pointer (some ⟨b, 0, none⟩), .string sg] w fun en w' => en = .returned (.bool (isS sg.data.toList st)) ∧ w = w' := by
  have HS : Hid (RP w b s st) := h
  obtain ⟨c0, c1, c2, c3, c4, c5, c6, f1, f2, f3, f4, f5, f6⟩ := h
  obtain ⟨i, kd, tx, a, e, x⟩ := st
  simp only [] at c0 c1 c2 c3 c4 c5 c6
  by_cases he : e = 0
  · subst he
    by_cases hk : kd = 7
    · subst hk
      by_cases ht : tx = sg
      · subst ht
        have HI : Hid (isS tx.data.toList ⟨i, 7, tx, a, 0, x⟩ = true) := by show _ = _; simp [isS]
        go_enter Tryz.func73, Tryz.ntmps73
        go_wp2
        go_ret
        exact ⟨by rw [HI.out]; rfl, rfl⟩
      · have HI : Hid (isS sg.data.toList ⟨i, 7, tx, a, 0, x⟩ = false) := by
          have hne : ¬ tx.data.toList = sg.data.toList := fun g => ht (ByteArray.ext (Array.toList_inj.1 g))
          show _ = _; simp [isS, hne]
        have hb : (tx.toList == sg.toList) = false := by rw [toList_of, toList_of, beq_eq_false_iff_ne]; exact fun g => ht (ByteArray.ext (Array.toList_inj.1 g))
        clear ht
        go_enter Tryz.func73, Tryz.ntmps73
        go_wp2
        go_ret
        exact ⟨by rw [HI.out]; rfl, rfl⟩
    · have HI : Hid (isS sg.data.toList ⟨i, kd, tx, a, 0, x⟩ = false) := by show _ = _; simp [isS, hk]
      have hb : ((kd : Int) == 7) = false := by rw [beq_eq_false_iff_ne]; omega
      clear hk
      go_enter Tryz.func73, Tryz.ntmps73
      go_wp2
      go_ret
      exact ⟨by rw [HI.out]; rfl, rfl⟩
  · have HI : Hid (isS sg.data.toList ⟨i, kd, tx, a, e, x⟩ = false) := by show _ = _; simp [isS, he]
    have hb : ((e : Int) == 0) = false := by rw [beq_eq_false_iff_ne]; omega
    clear he
    go_enter Tryz.func73, Tryz.ntmps73
    go_wp2
    go_ret
    exact ⟨by rw [HI.out]; rfl, rfl⟩
set_option maxRecDepth 100000 in
set_option maxHeartbeats 1000000 in
theorem rgot_any (b : Nat) (s sg : ByteArray) (st : RSt) (w : World) (h : RP w b s st) (hi : st.i ≤ s.size) (hs : s.size ≤ 1073741824) :
    Calls Tryz.prog 38 #[.pointer (some ⟨b, 0, none⟩), .string sg] w fun en w' => en = .returned (.bool (isS sg.data.toList st)) ∧ RP w' b s (gotS s sg.data.toList st) ∧ RFx w w' b := by
  have HS : Hid (RP w b s st) := h
  have HI : Hid (st.i ≤ s.size ∧ s.size ≤ 1073741824) := ⟨hi, hs⟩
  clear h hi hs
  go_enter Tryz.func38, Tryz.ntmps38
  go_wp2_with fail
  refine (ris_any b s sg st _ HS.out).mono ?_
  rintro en w1 ⟨rfl, rfl⟩
  obtain ⟨B, HB⟩ : ∃ B, Hid (isS sg.data.toList st = B) := ⟨_, (rfl : _ = _)⟩
  rw [HB.out]
  cases B with
  | true =>
    go_wp2_with fail
    refine (rnext_any b s st _ HS.out HI.out.1 HI.out.2).mono ?_
    rintro en w2 ⟨rfl, HN, HF⟩
    have HN2 : Hid (RP w2 b s (gotS s sg.data.toList st)) := by unfold gotS; rw [if_pos HB.out]; exact HN
    have HF2 : Hid (RFx w w2 b) := HF
    clear HN HF
    go_wp2
    go_ret
    exact ⟨by rw [HB.out]; rfl, HN2.out, HF2.out⟩
  | false =>
    have HN2 : Hid (RP w b s (gotS s sg.data.toList st)) := by show RP _ _ _ _; unfold gotS; rw [HB.out]; exact HS.out
    go_wp2
    go_ret
    exact ⟨by rw [HB.out]; rfl, HN2.out, RFx.refl _ _⟩
theorem gotS_i (s : ByteArray) (sg : List UInt8) (st : RSt) (h : st.i ≤ s.size) : (gotS s sg st).i ≤ s.size := by
  unfold gotS; split
  · exact nextS_i s st h
  · exact h
theorem failS_i (e x n : Nat) (st : RSt) (h : st.i ≤ n) : (failS e x st).i ≤ n := by unfold failS; split <;> exact h
theorem mustS_i (s : ByteArray) (sg : List UInt8) (st : RSt) (h : st.i ≤ s.size) : (mustS s sg st).i ≤ s.size := by
  unfold mustS; split
  · exact nextS_i s st h
  · exact failS_i _ _ _ _ h
set_option maxRecDepth 100000 in
set_option maxHeartbeats 1000000 in
theorem rmust_any (b : Nat) (s sg : ByteArray) (st : RSt) (w : World) (h : RP w b s st) (hi : st.i ≤ s.size) (hs : s.size ≤ 1073741824) :
    Calls Tryz.prog 40 #[.pointer (some ⟨b, 0, none⟩), .string sg] w fun en w' => en = .returned (.tuple #[]) ∧ RP w' b s (mustS s sg.data.toList st) ∧ RFx w w' b := by
  have HS : Hid (RP w b s st) := h
  have HI : Hid (st.i ≤ s.size ∧ s.size ≤ 1073741824) := ⟨hi, hs⟩
  clear h hi hs
  go_enter Tryz.func40, Tryz.ntmps40
  go_wp2_with fail
  refine (rgot_any b s sg st _ HS.out HI.out.1 HI.out.2).mono ?_
  rintro en w1 ⟨rfl, HN, HF⟩
  have HF1 : Hid (RFx w w1 b) := HF
  obtain ⟨B, HB⟩ : ∃ B, Hid (isS sg.data.toList st = B) := ⟨_, (rfl : _ = _)⟩
  rw [HB.out]
  cases B with
  | true =>
    have HN2 : Hid (RP w1 b s (mustS s sg.data.toList st)) := by
      show RP _ _ _ _
      have e : gotS s sg.data.toList st = mustS s sg.data.toList st := by unfold gotS mustS; rw [HB.out]; rfl
      rw [← e]; exact HN
    clear HN HF
    go_wp2
    go_end0
    exact ⟨rfl, HN2.out, HF1.out⟩
  | false =>
    have HN2 : Hid (RP w1 b s st) := by
      show RP _ _ _ _
      have e : gotS s sg.data.toList st = st := by unfold gotS; rw [HB.out]; rfl
      rw [← e]; exact HN
    clear HN HF
    obtain ⟨c0, c1, c2, c3, c4, c5, c6, f1, f2, f3, f4, f5, f6⟩ := HN2.out
    go_wp2_with fail
    refine (rfailS_any b s st 2 st.a _ HN2.out).mono ?_
    rintro en w2 ⟨rfl, HN, HF⟩
    have HN3 : Hid (RP w2 b s (mustS s sg.data.toList st)) := by show RP _ _ _ _; unfold mustS; rw [HB.out]; exact HN
    have HF2 : Hid (RFx w w2 b) := HF1.out.trans HF
    clear HN HF
    go_wp2
    go_end0
    exact ⟨rfl, HN3.out, HF2.out⟩
end Go.Proofs.YtgllfcoafgphbaaGreatDoor
