import Derived.Test.YtoelacloghkooaaGreatDoorM09
/-
  The document's Reader: named.
-/
namespace Go.Proofs.YtoelacloghkooaaGreatDoor
open Go.ChangeShapes Go.WideShapes Go.ChangeAt Go.RowKit
set_option linter.unusedVariables false
theorem gotS_fit (s : ByteArray) (sg : List UInt8) (st : RSt) (h : Fit s st) : Fit s (gotS s sg st) := by
  unfold gotS; split
  · exact nextS_fit s st h.1
  · exact h
theorem mustS_fit (s : ByteArray) (sg : List UInt8) (st : RSt) (h : Fit s st) : Fit s (mustS s sg st) := by
  unfold mustS; split
  · exact nextS_fit s st h.1
  · exact failS_fit s _ _ h (by decide)
theorem argsS_fit (s : ByteArray) : ∀ (n : Nat) (acc : List PTerm) (st : RSt), Fit s st → Fit s (argsS s n acc st).2 := by
  intro n
  induction n with
  | zero => intro acc st h; exact h
  | succ n ih =>
    intro acc st h
    by_cases he : st.e = 0
    · rw [argsS_step s n acc he]
      have h1 : Fit s (if 8 ≤ acc.length then manyS false st else st) := by
        split
        · exact manyS_fit s _ h
        · exact h
      have h2 := termS_fit s _ h1
      generalize (if 8 ≤ acc.length then manyS false st else st) = q at h2 ⊢
      split
      · exact ih _ _ (nextS_fit s _ h2.1)
      · exact h2
    · rw [argsS_dead s _ _ he]; exact h
theorem atomS_fit (s : ByteArray) (name : List UInt8) (x : Nat) (st : RSt) (h : Fit s st) : Fit s (atomS s name x st).2 := by
  unfold atomS; split
  · exact mustS_fit s _ _ (argsS_fit s _ _ _ (nextS_fit s st h.1))
  · exact h
theorem nameS_fit (s : ByteArray) (st : RSt) (h : Fit s st) : Fit s (nameS st) := by
  unfold nameS; split
  · exact h
  · exact failS_fit s _ _ h (by decide)
theorem namedS_fit (s : ByteArray) (st : RSt) (h : Fit s st) : Fit s (namedS s st).2 := by
  have := nameS_fit s st h
  unfold namedS; split
  · exact atomS_fit s _ _ _ (nextS_fit s _ this.1)
  · exact this
set_option maxRecDepth 100000 in
set_option maxHeartbeats 4000000 in
theorem rnamed_any (b : Nat) (s : ByteArray) (st : RSt) (w : World) (h : RP w b s st) (hf : Fit s st) (hs : s.size ≤ 1073741824) :
    Calls Tryz.prog 22 #[.pointer (some ⟨b, 0, none⟩)] w fun en w' => AtomR w.heap.size (namedS s st).1 en w' ∧ RP w' b s (namedS s st).2 ∧ w.grownBy w' (some b) := by
  have HS : Hid (RP w b s st) := h
  have HF : Hid (Fit s st) := hf
  have hbw : b < w.heap.size := RS.lt h
  obtain ⟨c0, c1, c2, c3, c4, c5, c6, f1, f2, f3, f4, f5, f6⟩ := h
  clear hf
  go_enter Tryz.func22, Tryz.ntmps22
  go_upto_region 2 with fail
  generalize hw0 : World.alloc (World.alloc _ _) _ = w0
  have HZ0 : Hid (w0.heap.size = w.heap.size + 2) := by show _ = _; rw [← hw0]; simp
  have HX0 : Hid (Box w0 w.heap.size [.string { data := #[] }, .slice none 0 0, .int .i64 0]) := by rw [← hw0]; exact (Box.new _ _ _).grown (by simp) (fr_alloc _ _ none) (by simp)
  have HA0 : Hid (Box w0 (w.heap.size + 1) [.int .i64 (st.kd : Nat), .string st.tx, .int .i64 (st.a : Nat)]) := by rw [← hw0]; exact Box.at _ _ _ _ (by simp)
  have HS0 : Hid (RP w0 b s st) := by rw [← hw0]; exact (HS.out.grown (fr_alloc _ _ none) (by simp)).grown (fr_alloc _ _ none) (by simp)
  have HG0 : Hid (w.grownBy w0 (some b)) := by rw [← hw0]; exact fr_both (fr_alloc _ _ _) (fr_alloc _ _ _)
  clear hw0 HS c0 c1 c2 c3 c4 c5 c6 f1 f2 f3 f4 f5 f6
  obtain ⟨c0, c1, c2, c3, c4, c5, c6, f1, f2, f3, f4, f5, f6⟩ := HS0.out
  have hbX : ¬ b = w.heap.size := by omega
  have hbA : ¬ b = w.heap.size + 1 := by omega
  have x0 := HX0.out.c 0 _ rfl
  have x1 := HX0.out.c 1 _ rfl
  have x2 := HX0.out.c 2 _ rfl
  have y0 := HX0.out.f 0 _ rfl
  have y1 := HX0.out.f 1 _ rfl
  have y2 := HX0.out.f 2 _ rfl
  have z0 := HA0.out.c 0 _ rfl
  have z1 := HA0.out.c 1 _ rfl
  have z2 := HA0.out.c 2 _ rfl
  by_cases hk : st.kd = 1
  · have hk1 : ((st.kd : Int) != 1) = false := by simp [hk]
    have HNS : Hid (nameS st = st) := by show _ = _; unfold nameS; rw [if_pos hk]
    clear hk
    by_cases he : st.e = 0
    · have he1 : ((st.e : Int) != 0) = false := by simp [he]
      have HD : Hid (namedS s st = atomS s st.tx.data.toList st.a (nextS s st)) := by show _ = _; unfold namedS; rw [HNS.out, if_pos he]
      clear he
      go_wp2_with fail
      refine (rnext_any b s st _ HS0.out HF.out.1 hs).mono ?_
      rintro en w1 ⟨rfl, HN, HFR⟩
      have HX1 : Hid (Box w1 w.heap.size [.string { data := #[] }, .slice none 0 0, .int .i64 0]) := HX0.out.grown (by simp) HFR.g (by simp; omega)
      have HA1 : Hid (Box w1 (w.heap.size + 1) [.int .i64 (st.kd : Nat), .string st.tx, .int .i64 (st.a : Nat)]) := HA0.out.grown (by simp) HFR.g (by simp; omega)
      have HG1 : Hid (w.grownBy w1 (some b)) := fr_both HG0.out HFR.g
      have HZ1 : Hid (w1.heap.size = w.heap.size + 2) := by show _ = _; rw [HFR.size]; exact HZ0.out
      have HN1 : Hid (RP w1 b s (nextS s st)) := HN
      clear HN HFR HX0 HA0 HG0 HZ0 HS0 c0 c1 c2 c3 c4 c5 c6 f1 f2 f3 f4 f5 f6 x0 x1 x2 y0 y1 y2 z0 z1 z2
      have z1 := HA1.out.c 1 _ rfl
      have z2 := HA1.out.c 2 _ rfl
      go_wp2_with fail
      have HC := ratom_any b s (nextS s st) st.tx.data.toList st.a w1 HN1.out (nextS_fit s st HF.out.1) hs
      rw [str_data] at HC
      refine HC.mono ?_
      clear HC
      rintro en w2 ⟨⟨v, rfl, hown⟩, HN, HFR⟩
      obtain ⟨va, vc, rfl⟩ := own_form hown
      have HO2 : Hid (w2.ownsRow w1.heap.size 101 3 (.slice va (atomS s st.tx.data.toList st.a (nextS s st)).1.args.length vc) (atomS s st.tx.data.toList st.a (nextS s st)).1.args.length (termsV (atomS s st.tx.data.toList st.a (nextS s st)).1.args)) := hown
      have HX2 : Hid (Box w2 w.heap.size [.string { data := #[] }, .slice none 0 0, .int .i64 0]) := HX1.out.grown (by simp) HFR (by simp; omega)
      have HG2 : Hid (w.grownBy w2 (some b)) := fr_both HG1.out HFR
      have HN2 : Hid (RP w2 b s (namedS s st).2) := by rw [HD.out]; exact HN
      clear HN HFR hown z1 z2
      rw [← HD.out] at HO2 ⊢
      obtain ⟨A, HA⟩ : ∃ A, Hid ((namedS s st).1 = A) := ⟨_, (rfl : _ = _)⟩
      rw [HA.out] at HO2 ⊢
      obtain ⟨SN, HSN⟩ : ∃ SN, Hid (str A.name = SN) := ⟨_, (rfl : _ = _)⟩
      rw [HSN.out]
      have x0 := HX2.out.c 0 _ rfl
      have x1 := HX2.out.c 1 _ rfl
      have x2 := HX2.out.c 2 _ rfl
      have y0 := HX2.out.f 0 _ rfl
      have y1 := HX2.out.f 1 _ rfl
      have y2 := HX2.out.f 2 _ rfl
      go_wp2
      refine bodyPost_ret (v := .agg #[.string SN, .slice va A.args.length vc, .int .i64 (A.place : Nat)]) (by simp [results, Tryz.results22, go_sem, x0, x1, x2]) rfl ⟨?_, ?_, ?_⟩
      · rw [HA.out]
        have := HZ1.out
        refine ⟨_, by rw [HSN.out], own_lower (own_far (own_far (own_far HO2.out (fr_set _ _ _ _) ?_) (fr_set _ _ _ _) ?_) (fr_set _ _ _ _) ?_) (by omega)⟩
        all_goals (intro g hg; have := (own_blk HO2.out hg).1; simp; omega)
      · exact ((HN2.out.other hbX _ _).other hbX _ _).other hbX _ _
      · exact fr_new (fr_new (fr_new HG2.out (Nat.le_refl _) _ _) (Nat.le_refl _) _ _) (Nat.le_refl _) _ _
    · have he1 : ((st.e : Int) != 0) = true := by rw [bne_iff_ne]; omega
      have HD : Hid (namedS s st = (noAtom, st)) := by show _ = _; unfold namedS; rw [HNS.out, if_neg he]
      clear he
      go_wp2
      refine bodyPost_ret (v := .agg #[.string { data := #[] }, .slice none 0 0, .int .i64 0]) (by simp [results, Tryz.results22, go_sem, x0, x1, x2]) rfl ⟨?_, ?_, ?_⟩
      · rw [HD.out]; exact ⟨_, rfl, World.ownsRow_nil _ _ _ _⟩
      · rw [HD.out]; exact ((HS0.out.other hbX _ _).other hbX _ _).other hbX _ _
      · exact fr_new (fr_new (fr_new HG0.out (Nat.le_refl _) _ _) (Nat.le_refl _) _ _) (Nat.le_refl _) _ _
  · have hk1 : ((st.kd : Int) != 1) = true := by rw [bne_iff_ne]; omega
    have HE5 : Hid ((((failS 2 st.a st).e : Int) != 0) = true) := by
      show _ = _
      rw [bne_iff_ne]
      unfold failS; split
      · simp
      · rename_i h; omega
    have HD : Hid (namedS s st = (noAtom, failS 2 st.a st)) := by
      show _ = _
      have h1 : nameS st = failS 2 st.a st := by unfold nameS; rw [if_neg hk]
      have h2 : ¬ (failS 2 st.a st).e = 0 := by have := HE5.out; rw [bne_iff_ne] at this; omega
      unfold namedS; rw [h1, if_neg h2]
    clear hk
    go_wp2_with fail
    refine (rfailS_any b s st 2 st.a _ HS0.out).mono ?_
    rintro en w5 ⟨rfl, HN, HFR⟩
    have HN5 : Hid (RP w5 b s (failS 2 st.a st)) := HN
    have HG5 : Hid (w.grownBy w5 (some b)) := fr_both HG0.out HFR.g
    have HX5 : Hid (Box w5 w.heap.size [.string { data := #[] }, .slice none 0 0, .int .i64 0]) := HX0.out.grown (by simp) HFR.g (by simp; omega)
    clear HN HFR c0 c1 c2 c3 c4 c5 c6 f1 f2 f3 f4 f5 f6 x0 x1 x2 y0 y1 y2 z0 z1 z2
    obtain ⟨c0, c1, c2, c3, c4, c5, c6, f1, f2, f3, f4, f5, f6⟩ := HN5.out
    have x0 := HX5.out.c 0 _ rfl
    have x1 := HX5.out.c 1 _ rfl
    have x2 := HX5.out.c 2 _ rfl
    have y0 := HX5.out.f 0 _ rfl
    have y1 := HX5.out.f 1 _ rfl
    have y2 := HX5.out.f 2 _ rfl
    have hb1 := HE5.out
    generalize failS 2 st.a st = qq at *
    go_wp2
    refine bodyPost_ret (v := .agg #[.string { data := #[] }, .slice none 0 0, .int .i64 0]) (by simp [results, Tryz.results22, go_sem, x0, x1, x2]) rfl ⟨?_, ?_, ?_⟩
    · rw [HD.out]; exact ⟨_, rfl, World.ownsRow_nil _ _ _ _⟩
    · rw [HD.out]; exact ((HN5.out.other hbX _ _).other hbX _ _).other hbX _ _
    · exact fr_new (fr_new (fr_new HG5.out (Nat.le_refl _) _ _) (Nat.le_refl _) _ _) (Nat.le_refl _) _ _
end Go.Proofs.YtoelacloghkooaaGreatDoor
