import Derived.Test.YtgllfcoafgphbaaGreatDoorM06
/-
  The document's Reader: named.
-/
namespace Go.Proofs.YtgllfcoafgphbaaGreatDoor
open Go.ChangeShapes Go.WideShapes Go.ChangeAt Go.RowKit
set_option linter.unusedVariables false
theorem gotS_fit (s : ByteArray) (sg : List UInt8) (st : RSt) (h : Fit s st) : Fit s (gotS s sg st) := by
  unfold gotS; split
  · exact nextS_fit s st h.1
  · exact h
theorem mustS_fit (s : ByteArray) (sg : List UInt8) (st : RSt) (h : Fit s st) : Fit s (mustS s sg st) := by
  unfold mustS; split
  · exact nextS_fit s st h.1
  · exact failS_fit s _ _ h (by decide)
theorem argsS_fit (s : ByteArray) : ∀ (n : Nat) (acc : List PTerm) (st : RSt), Fit s st → Fit s (argsS s n acc st).2 := by
  intro n
  induction n with
  | zero => intro acc st h; exact h
  | succ n ih =>
    intro acc st h
    by_cases he : st.e = 0
    · rw [argsS_step s n acc he]
      have h1 : Fit s (if 8 ≤ acc.length then manyS false st else st) := by
        split
        · exact manyS_fit s _ h
        · exact h
      have h2 := termS_fit s _ h1
      generalize (if 8 ≤ acc.length then manyS false st else st) = q at h2 ⊢
      split
      · exact ih _ _ (nextS_fit s _ h2.1)
      · exact h2
    · rw [argsS_dead s _ _ he]; exact h
theorem atomS_fit (s : ByteArray) (name : List UInt8) (x : Nat) (st : RSt) (h : Fit s st) : Fit s (atomS s name x st).2 := by
  unfold atomS; split
  · exact mustS_fit s _ _ (argsS_fit s _ _ _ (nextS_fit s st h.1))
  · exact h
theorem nameS_fit (s : ByteArray) (st : RSt) (h : Fit s st) : Fit s (nameS st) := by
  unfold nameS; split
  · exact h
  · exact failS_fit s _ _ h (by decide)
theorem namedS_fit (s : ByteArray) (st : RSt) (h : Fit s st) : Fit s (namedS s st).2 := by
  have := nameS_fit s st h
  unfold namedS; split
  · exact atomS_fit s _ _ _ (nextS_fit s _ this.1)
  · exact this
set_option maxRecDepth 100000 in
set_option maxHeartbeats 4000000 in
theorem rnamed_any (b : Nat) (s : ByteArray) (st : RSt) (w : World) (h : RP w b s st) (hf : Fit s st) (hs : s.size ≤ 1073741824) :
    Calls Tryz.prog 37 #[.pointer (some ⟨b, 0, none⟩)] w fun en w' => AtomR w.heap.size (namedS s st).1 en w' ∧ RP w' b s (namedS s st).2 ∧ w.grownBy w' (some b) := by
  have HS : Hid (RP w b s st) := h
  have HF : Hid (Fit s st) := hf
  have hbw : b < w.heap.size := RS.lt h
  obtain ⟨c0, c1, c2, c3, c4, c5, c6, f1, f2, f3, f4, f5, f6⟩ := h
  clear hf
  go_enter Tryz.func37, Tryz.ntmps37
  go_upto_region 2 with fail
  generalize hw0 : World.alloc (World.alloc _ _) _ = w0
  have HZ0 : Hid (w0.heap.size = w.heap.size + 2) := by show _ = _; rw [← hw0]; simp
  have HX0 : Hid (Box w0 w.heap.size [.string { data := #[] }, .slice none 0 0, .int .i64 0]) := by rw [← hw0]; exact (Box.new _ _ _).grown (by simp) (fr_alloc _ _ none) (by simp)
  have HA0 : Hid (Box w0 (w.heap.size + 1) [.int .i64 (st.kd : Nat), .string st.tx, .int .i64 (st.a : Nat)]) := by rw [← hw0]; exact Box.at _ _ _ _ (by simp)
  have HS0 : Hid (RP w0 b s st) := by rw [← hw0]; exact (HS.out.grown (fr_alloc _ _ none) (by simp)).grown (fr_alloc _ _ none) (by simp)
  have HG0 : Hid (w.grownBy w0 (some b)) := by rw [← hw0]; exact fr_both (fr_alloc _ _ _) (fr_alloc _ _ _)
  clear hw0 HS c0 c1 c2 c3 c4 c5 c6 f1 f2 f3 f4 f5 f6
  obtain ⟨c0, c1, c2, c3, c4, c5, c6, f1, f2, f3, f4, f5, f6⟩ := HS0.out
  have hbX : ¬ b = w.heap.size := by omega
  have hbA : ¬ b = w.heap.size + 1 := by omega
  have x0 := HX0.out.c 0 _ rfl
  have x1 := HX0.out.c 1 _ rfl
  have x2 := HX0.out.c 2 _ rfl
  have y0 := HX0.out.f 0 _ rfl
  have y1 := HX0.out.f 1 _ rfl
  have y2 := HX0.out.f 2 _ rfl
  have z0 := HA0.out.c 0 _ rfl
  have z1 := HA0.out.c 1 _ rfl
  have z2 := HA0.out.c 2 _ rfl
  by_cases hk : st.kd = 1
  · have hk1 : ((st.kd : Int) != 1) = false := by simp [hk]
    have HNS : Hid (nameS st = st) := by show _ = _; unfold nameS; rw [if_pos hk]
    clear hk
    by_cases he : st.e = 0
    · have he1 : ((st.e : Int) != 0) = false := by simp [he]
      have HD : Hid (namedS s st = atomS s st.tx.data.toList st.a (nextS s st)) := by show _ = _; unfold namedS; rw [HNS.out, if_pos he]
      clear he
      go_wp2_with fail
      refine (rnext_any b s st _ HS0.out HF.out.1 hs).mono ?_
      rintro en w1 ⟨rfl, HN, HFR⟩
      have HX1 : Hid (Box w1 w.heap.size [.string { data := #[] }, .slice none 0 0, .int .i64 0]) := HX0.out.grown (by simp) HFR.g (by simp; omega)
      have HA1 : Hid (Box w1 (w.heap.size + 1) [.int .i64 (st.kd : Nat), .string st.tx, .int .i64 (st.a : Nat)]) := HA0.out.grown (by simp) HFR.g (by simp; omega)
      have HG1 : Hid (w.grownBy w1 (some b)) := fr_both HG0.out HFR.g
      have HZ1 : Hid (w1.heap.size = w.heap.size + 2) := by show _ = _; rw [HFR.size]; exact HZ0.out
      have HN1 : Hid (RP w1 b s (nextS s st)) := HN
      clear HN HFR HX0 HA0 HG0 HZ0 HS0 c0 c1 c2 c3 c4 c5 c6 f1 f2 f3 f4 f5 f6 x0 x1 x2 y0 y1 y2 z0 z1 z2
      have z1 := HA1.out.c 1 _ rfl
      have z2 := HA1.out.c 2 _ rfl
      go_wp2_with fail
      have HC := ratom_any b s (nextS s st) st.tx.data.toList st.a w1 HN1.out (nextS_fit s st HF.out.1) hs
      rw [str_data] at HC
      refine HC.mono ?_
      clear HC
      rintro en w2 ⟨⟨v, rfl, hown⟩, HN, HFR⟩
      obtain ⟨va, vc, rfl⟩ := own_form hown
      have HO2 : Hid (w2.ownsRow w1.heap.size 45 3 (.slice va (atomS s st.tx.data.toList st.a (nextS s st)).1.args.length vc) (atomS s st.tx.data.toList st.a (nextS s st)).1.args.length (termsV (atomS s st.tx.data.toList st.a (nextS s st)).1.args)) := hown
      have HX2 : Hid (Box w2 w.heap.size [.string { data := #[] }, .slice none 0 0, .int .i64 0]) := HX1.out.grown (by simp) HFR (by simp; omega)
      have HG2 : Hid (w.grownBy w2 (some b)) := fr_both HG1.out HFR
      have HN2 : Hid (RP w2 b s (namedS s st).2) := by rw [HD.out]; exact HN
      clear HN HFR hown z1 z2
      rw [← HD.out] at HO2 ⊢
      obtain ⟨A, HA⟩ : ∃ A, Hid ((namedS s st).1 = A) := ⟨_, (rfl : _ = _)⟩
      rw [HA.out] at HO2 ⊢
      obtain ⟨SN, HSN⟩ : ∃ SN, Hid (str A.name = SN) := ⟨_, (rfl : _ = _)⟩
      rw [HSN.out]
      have x0 := HX2.out.c 0 _ rfl
      have x1 := HX2.out.c 1 _ rfl
      have x2 := HX2.out.c 2 _ rfl
      have y0 := HX2.out.f 0 _ rfl
      have y1 := HX2.out.f 1 _ rfl
      have y2 := HX2.out.f 2 _ rfl
      go_wp2
      refine bodyPost_ret (v := .agg #[.string SN, .slice va A.args.length vc, .int .i64 (A.place : Nat)]) (by simp [results, Tryz.results37, go_sem, x0, x1, x2]) rfl ⟨?_, ?_, ?_⟩
      · rw [HA.out]
        have := HZ1.out
        refine ⟨_, by rw [HSN.out], own_lower (own_far (own_far (own_far HO2.out (fr_set _ _ _ _) ?_) (fr_set _ _ _ _) ?_) (fr_set _ _ _ _) ?_) (by omega)⟩
        all_goals (intro g hg; have := (own_blk HO2.out hg).1; simp; omega)
      · exact ((HN2.out.other hbX _ _).other hbX _ _).other hbX _ _
      · exact fr_new (fr_new (fr_new HG2.out (Nat.le_refl _) _ _) (Nat.le_refl _) _ _) (Nat.le_refl _) _ _
    · have he1 : ((st.e : Int) != 0) = true := by rw [bne_iff_ne]; omega
      have HD : Hid (namedS s st = (noAtom, st)) := by show _ = _; unfold namedS; rw [HNS.out, if_neg he]
      clear he
      go_wp2
      refine bodyPost_ret (v := .agg #[.string { data := #[] }, .slice none 0 0, .int .i64 0]) (by simp [results, Tryz.results37, go_sem, x0, x1, x2]) rfl ⟨?_, ?_, ?_⟩
      · rw [HD.out]; exact ⟨_, rfl, World.ownsRow_nil _ _ _ _⟩
      · rw [HD.out]; exact ((HS0.out.other hbX _ _).other hbX _ _).other hbX _ _
      · exact fr_new (fr_new (fr_new HG0.out (Nat.le_refl _) _ _) (Nat.le_refl _) _ _) (Nat.le_refl _) _ _
  · have hk1 : ((st.kd : Int) != 1) = true := by rw [bne_iff_ne]; omega
    have HE5 : Hid ((((failS 2 st.a st).e : Int) != 0) = true) := by
      show _ = _
      rw [bne_iff_ne]
      unfold failS; split
      · simp
      · rename_i h; omega
    have HD : Hid (namedS s st = (noAtom, failS 2 st.a st)) := by
      show _ = _
      have h1 : nameS st = failS 2 st.a st := by unfold nameS; rw [if_neg hk]
      have h2 : ¬ (failS 2 st.a st).e = 0 := by have := HE5.out; rw [bne_iff_ne] at this; omega
      unfold namedS; rw [h1, if_neg h2]
    clear hk
    go_wp2_with fail
    refine (rfailS_any b s st 2 st.a _ HS0.out).mono ?_
    rintro en w5 ⟨rfl, HN, HFR⟩
    have HN5 : Hid (RP w5 b s (failS 2 st.a st)) := HN
    have HG5 : Hid (w.grownBy w5 (some b)) := fr_both HG0.out HFR.g
    have HX5 : Hid (Box w5 w.heap.size [.string { data := #[] }, .slice none 0 0, .int .i64 0]) := HX0.out.grown (by simp) HFR.g (by simp; omega)
    clear HN HFR c0 c1 c2 c3 c4 c5 c6 f1 f2 f3 f4 f5 f6 x0 x1 x2 y0 y1 y2 z0 z1 z2
    obtain ⟨c0, c1, c2, c3, c4, c5, c6, f1, f2, f3, f4, f5, f6⟩ := HN5.out
    have x0 := HX5.out.c 0 _ rfl
    have x1 := HX5.out.c 1 _ rfl
    have x2 := HX5.out.c 2 _ rfl
    have y0 := HX5.out.f 0 _ rfl
    have y1 := HX5.out.f 1 _ rfl
    have y2 := HX5.out.f 2 _ rfl
    have hb1 := HE5.out
    generalize failS 2 st.a st = qq at *
    go_wp2
    refine bodyPost_ret (v := .agg #[.string { data := #[] }, .slice none 0 0, .int .i64 0]) (by simp [results, Tryz.results37, go_sem, x0, x1, x2]) rfl ⟨?_, ?_, ?_⟩
    · rw [HD.out]; exact ⟨_, rfl, World.ownsRow_nil _ _ _ _⟩
    · rw [HD.out]; exact ((HN5.out.other hbX _ _).other hbX _ _).other hbX _ _
    · exact fr_new (fr_new (fr_new HG5.out (Nat.le_refl _) _ _) (Nat.le_refl _) _ _) (Nat.le_refl _) _ _
end Go.Proofs.YtgllfcoafgphbaaGreatDoor

/-
  The document's Reader: part.
-/
namespace Go.Proofs.YtgllfcoafgphbaaGreatDoor
open Go.ChangeShapes Go.WideShapes Go.ChangeAt Go.RowKit
set_option linter.unusedVariables false
/-- a part's cells, v its atom's terms -/
def partV (p : PPart) (v : Value) : List Value := [.int .i64 (p.kind : Nat), .string (str p.atom.name), v, .int .i64 (p.atom.place : Nat), .bool p.left.isVar, .string (str p.left.text), .int .i64 (p.left.place : Nat), .bool p.right.isVar, .string (str p.right.text), .int .i64 (p.right.place : Nat)]
def partZ : List Value := [.int .i64 0, .string { data := #[] }, .slice none 0 0, .int .i64 0, .bool false, .string { data := #[] }, .int .i64 0, .bool false, .string { data := #[] }, .int .i64 0]
/-- the document's part, as it is handed back -/
def PartR (base : Nat) (p : PPart) (en : Ending) (w : World) : Prop :=
  ∃ v, en = .returned (.agg (partV p v).toArray) ∧ w.ownsRow base 45 3 v p.atom.args.length (termsV p.atom.args)
theorem own_other {w : World} {base : Nat} {e : TypeId} {size : Nat} {v : Value} {n : Nat} {xs : List Value} (h : w.ownsRow base e size v n xs) {R : Nat} (hR : R < base) (j : Nat) (u : Value) : (w.setCell ⟨R, j, none⟩ u).ownsRow base e size v n xs :=
  own_far h (fr_set w R j u) (fun g hg => by have := (own_blk h hg).1; simp; omega)
theorem RP.alloc {w : World} {b : Nat} {s : ByteArray} {st : RSt} (h : RP w b s st) (o : Obj) : RP (w.alloc o) b s st := h.grown (fr_alloc w o none) (by simp)
/-- cells of one block turned one by one -/
def sets (w : World) (R : Nat) : Nat → List Value → World
  | _, [] => w
  | j, v :: vs => sets (w.setCell ⟨R, j, none⟩ v) R (j + 1) vs
theorem fr_sets {a : World} {r : Option Nat} {R : Nat} (hR : a.heap.size ≤ R) (vs : List Value) : ∀ (j : Nat) (b : World), a.grownBy b r → a.grownBy (sets b R j vs) r := by
  induction vs with
  | nil => intro j b h; exact h
  | cons v vs ih => intro j b h; exact ih (j + 1) _ (fr_new h hR j v)
theorem RP.sets {b : Nat} {s : ByteArray} {st : RSt} {R : Nat} (hne : ¬ b = R) (vs : List Value) : ∀ (j : Nat) (w : World), RP w b s st → RP (sets w R j vs) b s st := by
  induction vs with
  | nil => intro j w h; exact h
  | cons v vs ih => intro j w h; exact ih (j + 1) _ (h.other hne j v)
theorem own_sets {base : Nat} {e : TypeId} {size : Nat} {v : Value} {n : Nat} {xs : List Value} {R : Nat} (hR : R < base) (vs : List Value) : ∀ (j : Nat) (w : World), w.ownsRow base e size v n xs → (sets w R j vs).ownsRow base e size v n xs := by
  induction vs with
  | nil => intro j w h; exact h
  | cons u vs ih => intro j w h; exact ih (j + 1) _ (own_other h hR j u)
theorem size_sets {R : Nat} (vs : List Value) : ∀ (j : Nat) (w : World), (sets w R j vs).heap.size = w.heap.size := by
  induction vs with
  | nil => intro j w; rfl
  | cons u vs ih => intro j w; rw [sets, ih]; simp [World.setCell]
theorem box_sets_go {R : Nat} (vs : List Value) : ∀ (done old : List Value) (w : World), Box w R (done ++ old) → old.length = vs.length → Box (sets w R done.length vs) R (done ++ vs) := by
  induction vs with
  | nil => intro done old w h hl; cases old with
    | nil => exact h
    | cons o l => simp at hl
  | cons v vs ih =>
    intro done old w h hl
    cases old with
    | nil => simp at hl
    | cons o old =>
      have hset := h.set done.length o v (by simp)
      have e : (done ++ o :: old).set done.length v = (done ++ [v]) ++ old := by simp
      rw [e] at hset
      have := ih (done ++ [v]) old _ hset (by simp at hl; exact hl)
      simp only [List.length_append, List.length_singleton, List.append_assoc, List.singleton_append] at this
      exact this
theorem Box.sets {w : World} {R : Nat} {old : List Value} (h : Box w R old) (vs : List Value) (hl : old.length = vs.length) : Box (sets w R 0 vs) R vs := box_sets_go vs [] old w h hl
/-- the signs of comparisons -/
def cmpS (k : Nat) : List UInt8 := match k with
  | 0 => [61]
  | 1 => [33, 61]
  | _ => [60]
theorem partS_not (s : ByteArray) (st : RSt) (h : st.kd = 4) : partS s st = (⟨1, (namedS s (nextS s st)).1, noTerm, noTerm⟩, (namedS s (nextS s st)).2) := by unfold partS; rw [if_pos h]
theorem partS_cmp (s : ByteArray) (st : RSt) (h : ¬ st.kd = 4) (k : Nat) (hk : k < 3) (h0 : ∀ j, j < k → isS (cmpS j) (termS s st).2 = false) (h1 : isS (cmpS k) (termS s st).2 = true) :
    partS s st = (⟨2 + k, noAtom, (termS s st).1, (termS s (nextS s (termS s st).2)).1⟩, (termS s (nextS s (termS s st).2)).2) := by
  unfold partS
  rw [if_neg h]
  match k, hk with
  | 0, _ => have h1' : isS [61] (termS s st).2 = true := h1; simp only [h1']; rfl
  | 1, _ =>
    have h1' : isS [33, 61] (termS s st).2 = true := h1
    have h0' : isS [61] (termS s st).2 = false := h0 0 (by omega)
    simp only [h0', h1']; rfl
  | 2, _ =>
    have h1' : isS [60] (termS s st).2 = true := h1
    have h0' : isS [61] (termS s st).2 = false := h0 0 (by omega)
    have h2' : isS [33, 61] (termS s st).2 = false := h0 1 (by omega)
    simp only [h0', h1', h2']; rfl
theorem partS_end (s : ByteArray) (st : RSt) (h : ¬ st.kd = 4) (h0 : ∀ j, j < 3 → isS (cmpS j) (termS s st).2 = false) :
    partS s st = if (if st.kd = 1 then (termS s st).2 else failS 2 (termS s st).2.a (termS s st).2).e = 0 then (⟨0, (atomS s st.tx.data.toList st.a (if st.kd = 1 then (termS s st).2 else failS 2 (termS s st).2.a (termS s st).2)).1, noTerm, noTerm⟩, (atomS s st.tx.data.toList st.a (if st.kd = 1 then (termS s st).2 else failS 2 (termS s st).2.a (termS s st).2)).2) else (noPart, (if st.kd = 1 then (termS s st).2 else failS 2 (termS s st).2.a (termS s st).2)) := by
  unfold partS
  rw [if_neg h]
  have a0 : isS [61] (termS s st).2 = false := h0 0 (by omega)
  have a1 : isS [33, 61] (termS s st).2 = false := h0 1 (by omega)
  have a2 : isS [60] (termS s st).2 = false := h0 2 (by omega)
  simp only [a0, a1, a2]; rfl
theorem partS_fit (s : ByteArray) (st : RSt) (h : Fit s st) : Fit s (partS s st).2 := by
  have ht := termS_fit s st h
  have hu := termS_fit s _ (nextS_fit s _ ht.1)
  unfold partS
  split
  · exact namedS_fit s _ (nextS_fit s st h.1)
  · simp only []
    split
    · exact hu
    · split
      · exact hu
      · split
        · exact hu
        · have hq : Fit s (if st.kd = 1 then (termS s st).2 else failS 2 (termS s st).2.a (termS s st).2) := by
            split
            · exact ht
            · exact failS_fit s _ _ ht (by decide)
          generalize (if st.kd = 1 then (termS s st).2 else failS 2 (termS s st).2.a (termS s st).2) = q at hq ⊢
          split
          · exact atomS_fit s _ _ _ hq
          · exact hq
set_option maxRecDepth 100000 in
set_option maxHeartbeats 4000000 in
theorem rpart_any (b : Nat) (s : ByteArray) (st : RSt) (w : World) (h : RP w b s st) (hf : Fit s st) (hs : s.size ≤ 1073741824) :
    Calls Tryz.prog 75 #[.pointer (some ⟨b, 0, none⟩)] w fun en w' => PartR w.heap.size (partS s st).1 en w' ∧ RP w' b s (partS s st).2 ∧ w.grownBy w' (some b) := by
  have HS : Hid (RP w b s st) := h
  have HF : Hid (Fit s st) := hf
  have hbw : b < w.heap.size := RS.lt h
  have hbX : ¬ b = w.heap.size := by omega
  clear h hf
  go_enter Tryz.func75, Tryz.ntmps75
  go_upto_region 1 with fail
  generalize hw0 : World.alloc _ _ = w0
  have HZ0 : Hid (w0.heap.size = w.heap.size + 1) := by show _ = _; rw [← hw0]; simp
  have HX0 : Hid (Box w0 w.heap.size partZ) := by rw [← hw0]; exact Box.new _ _ _
  have HS0 : Hid (RP w0 b s st) := by rw [← hw0]; exact HS.out.grown (fr_alloc _ _ none) (by simp)
  have HG0 : Hid (w.grownBy w0 (some b)) := by rw [← hw0]; exact fr_alloc _ _ _
  clear hw0 HS
  obtain ⟨c0, c1, c2, c3, c4, c5, c6, f1, f2, f3, f4, f5, f6⟩ := HS0.out
  by_cases hk : st.kd = 4
  · have hk1 : ((st.kd : Int) == 4) = true := by simp [hk]
    have HP := hide (partS_not s st hk)
    clear hk
    go_wp2_with fail
    refine (rnext_any b s st _ HS0.out HF.out.1 hs).mono ?_
    rintro en w1 ⟨rfl, HN, HFR⟩
    have HX1 : Hid (Box w1 w.heap.size partZ) := HX0.out.grown (by simp [partZ]) HFR.g (by simp; omega)
    have HG1 : Hid (w.grownBy w1 (some b)) := fr_both HG0.out HFR.g
    have HN1 : Hid (RP w1 b s (nextS s st)) := HN
    have hw1 : w.heap.size < w1.heap.size := HX1.out.lt (by simp [partZ])
    clear HN HFR HX0 HG0 HZ0 HS0 c0 c1 c2 c3 c4 c5 c6 f1 f2 f3 f4 f5 f6
    go_wp2_with fail
    refine (rnamed_any b s (nextS s st) _ HN1.out (nextS_fit s st HF.out.1) hs).mono ?_
    rintro en w2 ⟨⟨v, rfl, hown⟩, HN, HFR⟩
    obtain ⟨va, vc, rfl⟩ := own_form hown
    have HX2 : Hid (Box w2 w.heap.size partZ) := HX1.out.grown (by simp [partZ]) HFR (by simp; omega)
    have HG2 : Hid (w.grownBy w2 (some b)) := fr_both HG1.out HFR
    have HN2 : Hid (RP w2 b s (partS s st).2) := by rw [HP.out]; exact HN
    obtain ⟨A, HA⟩ : ∃ A, Hid ((namedS s (nextS s st)).1 = A) := ⟨_, (rfl : _ = _)⟩
    rw [HA.out] at hown ⊢
    have HO2 := hide hown
    clear HN HFR hown
    obtain ⟨SN, HSN⟩ : ∃ SN, Hid (str A.name = SN) := ⟨_, (rfl : _ = _)⟩
    rw [HSN.out]
    have HPV : Hid ((partS s st).1 = ⟨1, A, noTerm, noTerm⟩) := by show _ = _; rw [HP.out, ← HA.out]
    have hw2 : w.heap.size < w2.heap.size := HX2.out.lt (by simp [partZ])
    have x0 := HX2.out.c 0 _ rfl
    have x1 := HX2.out.c 1 _ rfl
    have x2 := HX2.out.c 2 _ rfl
    have x3 := HX2.out.c 3 _ rfl
    have x4 := HX2.out.c 4 _ rfl
    have x5 := HX2.out.c 5 _ rfl
    have x6 := HX2.out.c 6 _ rfl
    have x7 := HX2.out.c 7 _ rfl
    have x8 := HX2.out.c 8 _ rfl
    have x9 := HX2.out.c 9 _ rfl
    have y0 := HX2.out.f 0 _ rfl
    have y1 := HX2.out.f 1 _ rfl
    have y2 := HX2.out.f 2 _ rfl
    have y3 := HX2.out.f 3 _ rfl
    have y4 := HX2.out.f 4 _ rfl
    have y5 := HX2.out.f 5 _ rfl
    have y6 := HX2.out.f 6 _ rfl
    have y7 := HX2.out.f 7 _ rfl
    have y8 := HX2.out.f 8 _ rfl
    have y9 := HX2.out.f 9 _ rfl
    go_wp2
    generalize hwf : World.alloc _ _ = wf
    obtain ⟨VS, HVS⟩ : ∃ VS : List Value, Hid (([.int .i64 1, .string SN, .slice va A.args.length vc, .int .i64 (A.place : Nat), .bool false, .string { data := #[] }, .int .i64 0, .bool false, .string { data := #[] }, .int .i64 0] : List Value) = VS) := ⟨_, (rfl : _ = _)⟩
    have hsw : (sets w2 w.heap.size 0 VS).alloc (.cells #[.string SN, .slice va A.args.length vc, .int .i64 (A.place : Nat)] 40) = wf := by
      rw [← HVS.out]; simp only [sets, Nat.zero_add, Nat.reduceAdd]; exact hwf
    clear hwf
    have HVL : Hid (VS.length = 10) := by show _ = _; rw [← HVS.out]; rfl
    have HXf : Hid (Box wf w.heap.size VS) := by rw [← hsw]; exact (HX2.out.sets VS HVL.out.symm).grown (by rw [HVL.out]; omega) (fr_alloc _ _ none) (by simp)
    have HOf : Hid (wf.ownsRow w1.heap.size 45 3 (.slice va A.args.length vc) A.args.length (termsV A.args)) := by rw [← hsw]; exact (own_sets hw1 VS 0 w2 HO2.out).alloc _
    have HNf : Hid (RP wf b s (partS s st).2) := by rw [← hsw]; exact (RP.sets hbX VS 0 w2 HN2.out).alloc _
    have HGf : Hid (w.grownBy wf (some b)) := by rw [← hsw]; exact fr_both (fr_sets (Nat.le_refl _) VS 0 w2 HG2.out) (fr_alloc _ _ _)
    clear hsw
    have hvs := HVS.out
    subst hvs
    clear x0 x1 x2 x3 x4 x5 x6 x7 x8 x9 y0 y1 y2 y3 y4 y5 y6 y7 y8 y9
    have x0 := HXf.out.c 0 _ rfl
    have x1 := HXf.out.c 1 _ rfl
    have x2 := HXf.out.c 2 _ rfl
    have x3 := HXf.out.c 3 _ rfl
    have x4 := HXf.out.c 4 _ rfl
    have x5 := HXf.out.c 5 _ rfl
    have x6 := HXf.out.c 6 _ rfl
    have x7 := HXf.out.c 7 _ rfl
    have x8 := HXf.out.c 8 _ rfl
    have x9 := HXf.out.c 9 _ rfl
    refine bodyPost_ret (v := .agg #[.int .i64 1, .string SN, .slice va A.args.length vc, .int .i64 (A.place : Nat), .bool false, .string { data := #[] }, .int .i64 0, .bool false, .string { data := #[] }, .int .i64 0]) (by simp [results, Tryz.results75, go_sem, x0, x1, x2, x3, x4, x5, x6, x7, x8, x9]) rfl ⟨?_, HNf.out, HGf.out⟩
    rw [HPV.out]
    exact ⟨_, by unfold partV; rw [HSN.out]; rfl, own_lower HOf.out (by omega)⟩
  · have hk1 : ((st.kd : Int) == 4) = false := by rw [beq_eq_false_iff_ne]; omega
    have HK := hide hk
    clear hk
    go_upto_region 6 with fail
    have HN0 : Hid (w.heap.size < w0.heap.size) := by have := HZ0.out; show _ < _; omega
    have hN0 := HN0.out
    generalize hNB : w0.heap.size = NB at hN0 ⊢
    generalize hw1 : World.alloc _ _ = w1
    have HX1 : Hid (Box w1 w.heap.size partZ) := by rw [← hw1]; exact HX0.out.grown (by simp [partZ]) (fr_alloc _ _ none) (by simp)
    have HY1 : Hid (Box w1 NB [.int .i64 (st.kd : Nat), .string st.tx, .int .i64 (st.a : Nat)]) := by rw [← hw1]; exact Box.at _ _ _ _ hNB.symm
    have HS1 : Hid (RP w1 b s st) := by rw [← hw1]; exact HS0.out.alloc _
    have HG1 : Hid (w.grownBy w1 (some b)) := by rw [← hw1]; exact fr_both HG0.out (fr_alloc _ _ _)
    clear hw1 HS0 HG0 HX0 HZ0 HN0 hNB c0 c1 c2 c3 c4 c5 c6 f1 f2 f3 f4 f5 f6
    go_wp2_with fail
    refine (rterm_any b s st _ HS1.out HF.out hs).mono ?_
    rintro en w2 ⟨rfl, HN, HFR⟩
    have HX2 : Hid (Box w2 w.heap.size partZ) := HX1.out.grown (by simp [partZ]) HFR (by simp; omega)
    have HY2 : Hid (Box w2 NB [.int .i64 (st.kd : Nat), .string st.tx, .int .i64 (st.a : Nat)]) := HY1.out.grown (by simp) HFR (by simp; omega)
    have HG2 : Hid (w.grownBy w2 (some b)) := fr_both HG1.out HFR
    have HFT : Hid (Fit s (termS s st).2) := termS_fit s st HF.out
    obtain ⟨tq, HTQ⟩ : ∃ tq, Hid (termS s st = tq) := ⟨_, (rfl : _ = _)⟩
    rw [HTQ.out] at HN HFT ⊢
    obtain ⟨t1, q⟩ := tq
    have HN2 : Hid (RP w2 b s q) := HN
    simp only [] at HFT
    clear HN HFR HX1 HY1 HG1 HS1
    obtain ⟨tt, HTT⟩ : ∃ tt, Hid (str t1.text = tt) := ⟨_, (rfl : _ = _)⟩
    have HTV : Hid (termV t1 = [.bool t1.isVar, .string tt, .int .i64 (t1.place : Nat)]) := by show _ = _; unfold termV; rw [HTT.out]
    rw [show (termV (t1, q).1).toArray = #[.bool t1.isVar, .string tt, .int .i64 (t1.place : Nat)] from by show (termV t1).toArray = _; rw [HTV.out]]
    have hR2 : w.heap.size < w2.heap.size := HX2.out.lt (by simp [partZ])
    have hB2 : NB < w2.heap.size := HY2.out.lt (by simp)
    go_wp2_with fail
    generalize hw3 : World.alloc (World.alloc _ _) _ = w3
    have HX3 : Hid (Box w3 w.heap.size partZ) := by rw [← hw3]; exact (HX2.out.grown (by simp [partZ]) (fr_alloc _ _ none) (by simp)).grown (by simp [partZ]) (fr_alloc _ _ none) (by simp)
    have HY3 : Hid (Box w3 NB [.int .i64 (st.kd : Nat), .string st.tx, .int .i64 (st.a : Nat)]) := by rw [← hw3]; exact (HY2.out.grown (by simp) (fr_alloc _ _ none) (by simp)).grown (by simp) (fr_alloc _ _ none) (by simp)
    have HT3 : Hid (Box w3 w2.heap.size [.bool t1.isVar, .string tt, .int .i64 (t1.place : Nat)]) := by rw [← hw3]; exact (Box.new _ _ _).grown (by simp) (fr_alloc _ _ none) (by simp)
    have HC3 : Hid (Box w3 (w2.heap.size + 1) [.string { data := #[61] }, .string { data := #[33, 61] }, .string { data := #[60] }]) := by rw [← hw3]; exact Box.at _ _ _ _ (by simp)
    have HN3 : Hid (RP w3 b s q) := by rw [← hw3]; exact (HN2.out.alloc _).alloc _
    have HG3 : Hid (w.grownBy w3 (some b)) := by rw [← hw3]; exact fr_both (fr_both HG2.out (fr_alloc _ _ _)) (fr_alloc _ _ _)
    clear hw3 HX2 HY2 HN2 HG2
    go_loopw [7, 8] (fun kv t8 wr => ∃ k : Nat, k ≤ 3 ∧ kv = .int .i64 k ∧ Hid (RP wr b s q) ∧ Hid (w3.grownBy wr (some b)) ∧ Hid (∀ j, j < k → isS (cmpS j) q = false)) (fun kv _ _ => 3 - (intOf kv).toNat)
    case atStart => exact ⟨0, by omega, rfl, HN3, fr_refl _ _, fun j hj => by omega⟩
    case round =>
      obtain ⟨k, hk3, rfl, HR, HGR, HAL⟩ := hrel
      have HXr : Hid (Box wr w.heap.size partZ) := HX3.out.grown (by simp [partZ]) HGR.out (by simp; omega)
      have HYr : Hid (Box wr NB [.int .i64 (st.kd : Nat), .string st.tx, .int .i64 (st.a : Nat)]) := HY3.out.grown (by simp) HGR.out (by simp; omega)
      have HTr : Hid (Box wr w2.heap.size [.bool t1.isVar, .string tt, .int .i64 (t1.place : Nat)]) := HT3.out.grown (by simp) HGR.out (by simp; omega)
      have HCr : Hid (Box wr (w2.heap.size + 1) [.string { data := #[61] }, .string { data := #[33, 61] }, .string { data := #[60] }]) := HC3.out.grown (by simp) HGR.out (by simp; omega)
      have HGw : Hid (w.grownBy wr (some b)) := fr_both HG3.out HGR.out
      have s0 := HCr.out.c 0 _ rfl
      have s1 := HCr.out.c 1 _ rfl
      have s2 := HCr.out.c 2 _ rfl
      have hsg : (k = 3) ∨ ∃ sg, (k = 0 ∧ sg = str [61] ∨ k = 1 ∧ sg = str [33, 61] ∨ k = 2 ∧ sg = str [60]) := by
        rcases (by omega : k = 3 ∨ k = 0 ∨ k = 1 ∨ k = 2) with h | h | h | h
        · exact Or.inl h
        · exact Or.inr ⟨_, Or.inl ⟨h, rfl⟩⟩
        · exact Or.inr ⟨_, Or.inr (Or.inl ⟨h, rfl⟩)⟩
        · exact Or.inr ⟨_, Or.inr (Or.inr ⟨h, rfl⟩)⟩
      rcases hsg with rfl | ⟨sg, hsg⟩
      · have HAL3 := hide (partS_end s st HK.out (by rw [HTQ.out]; exact HAL.out))
        rw [HTQ.out] at HAL3
        simp only [] at HAL3
        clear s0 s1 s2 HCr HTr HAL
        have z0 := HYr.out.c 0 _ rfl
        have z1 := HYr.out.c 1 _ rfl
        have z2 := HYr.out.c 2 _ rfl
        obtain ⟨c0, c1, c2, c3, c4, c5, c6, f1, f2, f3, f4, f5, f6⟩ := HR.out
        have x0 := HXr.out.c 0 _ rfl
        have x1 := HXr.out.c 1 _ rfl
        have x2 := HXr.out.c 2 _ rfl
        have x3 := HXr.out.c 3 _ rfl
        have x4 := HXr.out.c 4 _ rfl
        have x5 := HXr.out.c 5 _ rfl
        have x6 := HXr.out.c 6 _ rfl
        have x7 := HXr.out.c 7 _ rfl
        have x8 := HXr.out.c 8 _ rfl
        have x9 := HXr.out.c 9 _ rfl
        have y0 := HXr.out.f 0 _ rfl
        have y1 := HXr.out.f 1 _ rfl
        have y2 := HXr.out.f 2 _ rfl
        have y3 := HXr.out.f 3 _ rfl
        have y4 := HXr.out.f 4 _ rfl
        have y5 := HXr.out.f 5 _ rfl
        have y6 := HXr.out.f 6 _ rfl
        have y7 := HXr.out.f 7 _ rfl
        have y8 := HXr.out.f 8 _ rfl
        have y9 := HXr.out.f 9 _ rfl
        have hRr : w.heap.size < wr.heap.size := HXr.out.lt (by simp [partZ])
        by_cases hk : st.kd = 1
        · have hk1 : ((st.kd : Int) != 1) = false := by simp [hk]
          rw [if_pos hk] at HAL3
          clear hk
          by_cases he : q.e = 0
          · have he1 : ((q.e : Int) != 0) = false := by simp [he]
            rw [if_pos he] at HAL3
            clear he
            go_wp2_with fail
            have HC := ratom_any b s q st.tx.data.toList st.a wr HR.out HFT.out hs
            rw [str_data] at HC
            refine HC.mono ?_
            clear HC
            rintro en w5 ⟨⟨v, rfl, hown⟩, HN, HFR⟩
            obtain ⟨va, vc, rfl⟩ := own_form hown
            have HX5 : Hid (Box w5 w.heap.size partZ) := HXr.out.grown (by simp [partZ]) HFR (by simp; omega)
            have HG5 : Hid (w.grownBy w5 (some b)) := fr_both HGw.out HFR
            obtain ⟨A, HA⟩ : ∃ A, Hid ((atomS s st.tx.data.toList st.a q).1 = A) := ⟨_, (rfl : _ = _)⟩
            rw [HA.out] at hown HAL3 ⊢
            have HO5 := hide hown
            have HN5 : Hid (RP w5 b s (partS s st).2) := by rw [HAL3.out]; exact HN
            have HPV : Hid ((partS s st).1 = ⟨0, A, noTerm, noTerm⟩) := by show _ = _; rw [HAL3.out]
            clear HN HFR hown x0 x1 x2 x3 x4 x5 x6 x7 x8 x9 y0 y1 y2 y3 y4 y5 y6 y7 y8 y9 z0 z1 z2 c0 c1 c2 c3 c4 c5 c6 f1 f2 f3 f4 f5 f6
            obtain ⟨SN, HSN⟩ : ∃ SN, Hid (str A.name = SN) := ⟨_, (rfl : _ = _)⟩
            rw [HSN.out]
            have hw5 : w.heap.size < w5.heap.size := HX5.out.lt (by simp [partZ])
            have x0 := HX5.out.c 0 _ rfl
            have x1 := HX5.out.c 1 _ rfl
            have x2 := HX5.out.c 2 _ rfl
            have x3 := HX5.out.c 3 _ rfl
            have x4 := HX5.out.c 4 _ rfl
            have x5 := HX5.out.c 5 _ rfl
            have x6 := HX5.out.c 6 _ rfl
            have x7 := HX5.out.c 7 _ rfl
            have x8 := HX5.out.c 8 _ rfl
            have x9 := HX5.out.c 9 _ rfl
            have y0 := HX5.out.f 0 _ rfl
            have y1 := HX5.out.f 1 _ rfl
            have y2 := HX5.out.f 2 _ rfl
            have y3 := HX5.out.f 3 _ rfl
            have y4 := HX5.out.f 4 _ rfl
            have y5 := HX5.out.f 5 _ rfl
            have y6 := HX5.out.f 6 _ rfl
            have y7 := HX5.out.f 7 _ rfl
            have y8 := HX5.out.f 8 _ rfl
            have y9 := HX5.out.f 9 _ rfl
            go_wp2
            generalize hwf : World.alloc _ _ = wf
            obtain ⟨VS, HVS⟩ : ∃ VS : List Value, Hid (([.int .i64 0, .string SN, .slice va A.args.length vc, .int .i64 (A.place : Nat), .bool false, .string { data := #[] }, .int .i64 0, .bool false, .string { data := #[] }, .int .i64 0] : List Value) = VS) := ⟨_, (rfl : _ = _)⟩
            have hsw : (sets w5 w.heap.size 0 VS).alloc (.cells #[.string SN, .slice va A.args.length vc, .int .i64 (A.place : Nat)] 40) = wf := by
              rw [← HVS.out]; simp only [sets, Nat.zero_add, Nat.reduceAdd]; exact hwf
            clear hwf
            have HVL : Hid (VS.length = 10) := by show _ = _; rw [← HVS.out]; rfl
            have HXf : Hid (Box wf w.heap.size VS) := by rw [← hsw]; exact (HX5.out.sets VS HVL.out.symm).grown (by rw [HVL.out]; omega) (fr_alloc _ _ none) (by simp)
            have HOf : Hid (wf.ownsRow wr.heap.size 45 3 (.slice va A.args.length vc) A.args.length (termsV A.args)) := by rw [← hsw]; exact (own_sets hRr VS 0 w5 HO5.out).alloc _
            have HNf : Hid (RP wf b s (partS s st).2) := by rw [← hsw]; exact (RP.sets hbX VS 0 w5 HN5.out).alloc _
            have HGf : Hid (w.grownBy wf (some b)) := by rw [← hsw]; exact fr_both (fr_sets (Nat.le_refl _) VS 0 w5 HG5.out) (fr_alloc _ _ _)
            clear hsw x0 x1 x2 x3 x4 x5 x6 x7 x8 x9 y0 y1 y2 y3 y4 y5 y6 y7 y8 y9
            have hvs := HVS.out
            subst hvs
            have x0 := HXf.out.c 0 _ rfl
            have x1 := HXf.out.c 1 _ rfl
            have x2 := HXf.out.c 2 _ rfl
            have x3 := HXf.out.c 3 _ rfl
            have x4 := HXf.out.c 4 _ rfl
            have x5 := HXf.out.c 5 _ rfl
            have x6 := HXf.out.c 6 _ rfl
            have x7 := HXf.out.c 7 _ rfl
            have x8 := HXf.out.c 8 _ rfl
            have x9 := HXf.out.c 9 _ rfl
            refine bodyPost_ret (v := .agg ([.int .i64 0, .string SN, .slice va A.args.length vc, .int .i64 (A.place : Nat), .bool false, .string { data := #[] }, .int .i64 0, .bool false, .string { data := #[] }, .int .i64 0] : List Value).toArray) (by simp [results, Tryz.results75, go_sem, x0, x1, x2, x3, x4, x5, x6, x7, x8, x9]) rfl ⟨?_, HNf.out, HGf.out⟩
            rw [HPV.out]
            exact ⟨_, by unfold partV; rw [HSN.out]; rfl, own_lower HOf.out (by omega)⟩
          · have he1 : ((q.e : Int) != 0) = true := by rw [bne_iff_ne]; omega
            rw [if_neg he] at HAL3
            have HPV : Hid ((partS s st).1 = noPart) := by show _ = _; rw [HAL3.out]
            have HNr : Hid (RP wr b s (partS s st).2) := by rw [HAL3.out]; exact HR.out
            have HGr := HGw
            clear he
            go_wp2
            generalize hwf : World.setCell _ _ _ = wf
            obtain ⟨VS, HVS⟩ : ∃ VS : List Value, Hid (([.int .i64 0, .string { data := #[] }, .slice none 0 0, .int .i64 0, .bool false, .string { data := #[] }, .int .i64 0, .bool false, .string { data := #[] }, .int .i64 0] : List Value) = VS) := ⟨_, (rfl : _ = _)⟩
            have hsw : sets wr w.heap.size 0 VS = wf := by
              rw [← HVS.out]; simp only [sets, Nat.zero_add, Nat.reduceAdd]; exact hwf
            clear hwf
            have HVL : Hid (VS.length = 10) := by show _ = _; rw [← HVS.out]; rfl
            have HXf : Hid (Box wf w.heap.size VS) := by rw [← hsw]; exact HXr.out.sets VS HVL.out.symm
            have HNf : Hid (RP wf b s (partS s st).2) := by rw [← hsw]; exact RP.sets hbX VS 0 wr HNr.out
            have HGf : Hid (w.grownBy wf (some b)) := by rw [← hsw]; exact fr_sets (Nat.le_refl _) VS 0 wr HGr.out
            clear hsw x0 x1 x2 x3 x4 x5 x6 x7 x8 x9 y0 y1 y2 y3 y4 y5 y6 y7 y8 y9 z0 z1 z2 c0 c1 c2 c3 c4 c5 c6 f1 f2 f3 f4 f5 f6
            have hvs := HVS.out
            subst hvs
            have x0 := HXf.out.c 0 _ rfl
            have x1 := HXf.out.c 1 _ rfl
            have x2 := HXf.out.c 2 _ rfl
            have x3 := HXf.out.c 3 _ rfl
            have x4 := HXf.out.c 4 _ rfl
            have x5 := HXf.out.c 5 _ rfl
            have x6 := HXf.out.c 6 _ rfl
            have x7 := HXf.out.c 7 _ rfl
            have x8 := HXf.out.c 8 _ rfl
            have x9 := HXf.out.c 9 _ rfl
            refine bodyPost_ret (v := .agg ([.int .i64 0, .string { data := #[] }, .slice none 0 0, .int .i64 0, .bool false, .string { data := #[] }, .int .i64 0, .bool false, .string { data := #[] }, .int .i64 0] : List Value).toArray) (by simp [results, Tryz.results75, go_sem, x0, x1, x2, x3, x4, x5, x6, x7, x8, x9]) rfl ⟨?_, HNf.out, HGf.out⟩
            rw [HPV.out]
            exact ⟨_, rfl, World.ownsRow_nil _ _ _ _⟩
        · have hk1 : ((st.kd : Int) != 1) = true := by rw [bne_iff_ne]; omega
          rw [if_neg hk] at HAL3
          have HE5 : Hid ((((failS 2 q.a q).e : Int) != 0) = true) := by
            show _ = _
            rw [bne_iff_ne]
            unfold failS; split
            · simp
            · rename_i h; omega
          have h2 : ¬ (failS 2 q.a q).e = 0 := by have := HE5.out; rw [bne_iff_ne] at this; omega
          rw [if_neg h2] at HAL3
          clear hk h2
          go_wp2_with fail
          refine (rfailS_any b s q 2 q.a _ HR.out).mono ?_
          rintro en w5 ⟨rfl, HN, HFR⟩
          have HX5 : Hid (Box w5 w.heap.size partZ) := HXr.out.grown (by simp [partZ]) HFR.g (by simp; omega)
          have HG5 : Hid (w.grownBy w5 (some b)) := fr_both HGw.out HFR.g
          have HF5 : Hid (RP w5 b s (failS 2 q.a q)) := HN
          have HN5 : Hid (RP w5 b s (partS s st).2) := by rw [HAL3.out]; exact HN
          have HPV : Hid ((partS s st).1 = noPart) := by show _ = _; rw [HAL3.out]
          clear HN HFR x0 x1 x2 x3 x4 x5 x6 x7 x8 x9 y0 y1 y2 y3 y4 y5 y6 y7 y8 y9 z0 z1 z2 c0 c1 c2 c3 c4 c5 c6 f1 f2 f3 f4 f5 f6
          obtain ⟨c0, c1, c2, c3, c4, c5, c6, f1, f2, f3, f4, f5, f6⟩ := HF5.out
          have hb1 := HE5.out
          generalize failS 2 q.a q = qq at *
          have x0 := HX5.out.c 0 _ rfl
          have x1 := HX5.out.c 1 _ rfl
          have x2 := HX5.out.c 2 _ rfl
          have x3 := HX5.out.c 3 _ rfl
          have x4 := HX5.out.c 4 _ rfl
          have x5 := HX5.out.c 5 _ rfl
          have x6 := HX5.out.c 6 _ rfl
          have x7 := HX5.out.c 7 _ rfl
          have x8 := HX5.out.c 8 _ rfl
          have x9 := HX5.out.c 9 _ rfl
          have y0 := HX5.out.f 0 _ rfl
          have y1 := HX5.out.f 1 _ rfl
          have y2 := HX5.out.f 2 _ rfl
          have y3 := HX5.out.f 3 _ rfl
          have y4 := HX5.out.f 4 _ rfl
          have y5 := HX5.out.f 5 _ rfl
          have y6 := HX5.out.f 6 _ rfl
          have y7 := HX5.out.f 7 _ rfl
          have y8 := HX5.out.f 8 _ rfl
          have y9 := HX5.out.f 9 _ rfl
          go_wp2
          generalize hwf : World.setCell _ _ _ = wf
          obtain ⟨VS, HVS⟩ : ∃ VS : List Value, Hid (([.int .i64 0, .string { data := #[] }, .slice none 0 0, .int .i64 0, .bool false, .string { data := #[] }, .int .i64 0, .bool false, .string { data := #[] }, .int .i64 0] : List Value) = VS) := ⟨_, (rfl : _ = _)⟩
          have hsw : sets w5 w.heap.size 0 VS = wf := by
            rw [← HVS.out]; simp only [sets, Nat.zero_add, Nat.reduceAdd]; exact hwf
          clear hwf
          have HVL : Hid (VS.length = 10) := by show _ = _; rw [← HVS.out]; rfl
          have HXf : Hid (Box wf w.heap.size VS) := by rw [← hsw]; exact HX5.out.sets VS HVL.out.symm
          have HNf : Hid (RP wf b s (partS s st).2) := by rw [← hsw]; exact RP.sets hbX VS 0 w5 HN5.out
          have HGf : Hid (w.grownBy wf (some b)) := by rw [← hsw]; exact fr_sets (Nat.le_refl _) VS 0 w5 HG5.out
          clear hsw x0 x1 x2 x3 x4 x5 x6 x7 x8 x9 y0 y1 y2 y3 y4 y5 y6 y7 y8 y9 c0 c1 c2 c3 c4 c5 c6 f1 f2 f3 f4 f5 f6
          have hvs := HVS.out
          subst hvs
          have x0 := HXf.out.c 0 _ rfl
          have x1 := HXf.out.c 1 _ rfl
          have x2 := HXf.out.c 2 _ rfl
          have x3 := HXf.out.c 3 _ rfl
          have x4 := HXf.out.c 4 _ rfl
          have x5 := HXf.out.c 5 _ rfl
          have x6 := HXf.out.c 6 _ rfl
          have x7 := HXf.out.c 7 _ rfl
          have x8 := HXf.out.c 8 _ rfl
          have x9 := HXf.out.c 9 _ rfl
          refine bodyPost_ret (v := .agg ([.int .i64 0, .string { data := #[] }, .slice none 0 0, .int .i64 0, .bool false, .string { data := #[] }, .int .i64 0, .bool false, .string { data := #[] }, .int .i64 0] : List Value).toArray) (by simp [results, Tryz.results75, go_sem, x0, x1, x2, x3, x4, x5, x6, x7, x8, x9]) rfl ⟨?_, HNf.out, HGf.out⟩
          rw [HPV.out]
          exact ⟨_, rfl, World.ownsRow_nil _ _ _ _⟩
      · have HSG : Hid (sg.data.toList = cmpS k) := by
          rcases hsg with ⟨rfl, rfl⟩ | ⟨rfl, rfl⟩ | ⟨rfl, rfl⟩ <;> exact (data_str _)
        have hcl : wr.cell? ⟨w2.heap.size + 1, k, none⟩ = some (.string sg) := by
          rcases hsg with ⟨rfl, rfl⟩ | ⟨rfl, rfl⟩ | ⟨rfl, rfl⟩
          · exact s0
          · exact s1
          · exact s2
        have hkl : k < 3 := by rcases hsg with ⟨rfl, rfl⟩ | ⟨rfl, rfl⟩ | ⟨rfl, rfl⟩ <;> omega
        clear hsg s0 s1 s2
        go_wp2_with fail
        refine (rgot_any b s sg q _ HR.out HFT.out.1 hs).mono ?_
        rintro en w4 ⟨rfl, HN, HFR⟩
        rw [HSG.out] at HN ⊢
        have HX4 : Hid (Box w4 w.heap.size partZ) := HXr.out.grown (by simp [partZ]) HFR.g (by simp; omega)
        have HT4 : Hid (Box w4 w2.heap.size [.bool t1.isVar, .string tt, .int .i64 (t1.place : Nat)]) := HTr.out.grown (by simp) HFR.g (by simp; omega)
        have HG4 : Hid (w.grownBy w4 (some b)) := fr_both HGw.out HFR.g
        have HGR4 : Hid (w3.grownBy w4 (some b)) := fr_both HGR.out HFR.g
        obtain ⟨B, HB⟩ : ∃ B, Hid (isS (cmpS k) q = B) := ⟨_, (rfl : _ = _)⟩
        rw [HB.out]
        have HN4 : Hid (RP w4 b s (if B then nextS s q else q)) := by have := HN; unfold gotS at this; rw [HB.out] at this; exact this
        clear HN HFR HXr HYr HTr HCr HGw HR
        cases B with
        | false =>
          go_wp2_with fail
          go_roundw
          case rel => exact ⟨k + 1, by omega, by go_num, HN4, HGR4, fun j hj => by
            by_cases e : j = k
            · subst e; exact HB.out
            · exact HAL.out j (by omega)⟩
          case measure => simp [intOf]; omega
        | true =>
          have HP : Hid (partS s st = (⟨2 + k, noAtom, t1, (termS s (nextS s q)).1⟩, (termS s (nextS s q)).2)) := by
            have := partS_cmp s st HK.out k hkl (by rw [HTQ.out]; exact HAL.out) (by rw [HTQ.out]; exact HB.out)
            rw [HTQ.out] at this; exact this
          go_wp2_with fail
          refine (rterm_any b s (nextS s q) _ HN4.out (nextS_fit s q HFT.out.1) hs).mono ?_
          rintro en w5 ⟨rfl, HN, HFR⟩
          have HX5 : Hid (Box w5 w.heap.size partZ) := HX4.out.grown (by simp [partZ]) HFR (by simp; omega)
          have HT5 : Hid (Box w5 w2.heap.size [.bool t1.isVar, .string tt, .int .i64 (t1.place : Nat)]) := HT4.out.grown (by simp) HFR (by simp; omega)
          have HG5 : Hid (w.grownBy w5 (some b)) := fr_both HG4.out HFR
          obtain ⟨u1, HU1⟩ : ∃ u1, Hid ((termS s (nextS s q)).1 = u1) := ⟨_, (rfl : _ = _)⟩
          rw [HU1.out] at HP ⊢
          have HN5 : Hid (RP w5 b s (partS s st).2) := by rw [HP.out]; exact HN
          have HPV : Hid ((partS s st).1 = ⟨2 + k, noAtom, t1, u1⟩) := by show _ = _; rw [HP.out]
          clear HN HFR HX4 HT4 HG4 HN4 hcl
          obtain ⟨ut, HUT⟩ : ∃ ut, Hid (str u1.text = ut) := ⟨_, (rfl : _ = _)⟩
          rw [show (termV u1).toArray = #[.bool u1.isVar, .string ut, .int .i64 (u1.place : Nat)] from by unfold termV; rw [HUT.out]]
          have hR5 : w.heap.size < w5.heap.size := HX5.out.lt (by simp [partZ])
          have hT5 : w2.heap.size < w5.heap.size := HT5.out.lt (by simp)
          have x0 := HX5.out.c 0 _ rfl
          have x1 := HX5.out.c 1 _ rfl
          have x2 := HX5.out.c 2 _ rfl
          have x3 := HX5.out.c 3 _ rfl
          have x4 := HX5.out.c 4 _ rfl
          have x5 := HX5.out.c 5 _ rfl
          have x6 := HX5.out.c 6 _ rfl
          have x7 := HX5.out.c 7 _ rfl
          have x8 := HX5.out.c 8 _ rfl
          have x9 := HX5.out.c 9 _ rfl
          have y0 := HX5.out.f 0 _ rfl
          have y1 := HX5.out.f 1 _ rfl
          have y2 := HX5.out.f 2 _ rfl
          have y3 := HX5.out.f 3 _ rfl
          have y4 := HX5.out.f 4 _ rfl
          have y5 := HX5.out.f 5 _ rfl
          have y6 := HX5.out.f 6 _ rfl
          have y7 := HX5.out.f 7 _ rfl
          have y8 := HX5.out.f 8 _ rfl
          have y9 := HX5.out.f 9 _ rfl
          have z0 := HT5.out.c 0 _ rfl
          have z1 := HT5.out.c 1 _ rfl
          have z2 := HT5.out.c 2 _ rfl
          go_wp2
          generalize hwf : World.alloc _ _ = wf
          obtain ⟨VS, HVS⟩ : ∃ VS : List Value, Hid (([.int .i64 ((2 : Int) + (k : Nat)), .string { data := #[] }, .slice none 0 0, .int .i64 0, .bool t1.isVar, .string tt, .int .i64 (t1.place : Nat), .bool u1.isVar, .string ut, .int .i64 (u1.place : Nat)] : List Value) = VS) := ⟨_, (rfl : _ = _)⟩
          have hsw : (sets w5 w.heap.size 0 VS).alloc (.cells #[.bool u1.isVar, .string ut, .int .i64 (u1.place : Nat)] 45) = wf := by
            rw [← HVS.out]; simp only [sets, Nat.zero_add, Nat.reduceAdd]; exact hwf
          clear hwf
          have HVL : Hid (VS.length = 10) := by show _ = _; rw [← HVS.out]; rfl
          have HXf : Hid (Box wf w.heap.size VS) := by rw [← hsw]; exact (HX5.out.sets VS HVL.out.symm).grown (by rw [HVL.out]; omega) (fr_alloc _ _ none) (by simp)
          have HNf : Hid (RP wf b s (partS s st).2) := by rw [← hsw]; exact (RP.sets hbX VS 0 w5 HN5.out).alloc _
          have HGf : Hid (w.grownBy wf (some b)) := by rw [← hsw]; exact fr_both (fr_sets (Nat.le_refl _) VS 0 w5 HG5.out) (fr_alloc _ _ _)
          clear hsw x0 x1 x2 x3 x4 x5 x6 x7 x8 x9 y0 y1 y2 y3 y4 y5 y6 y7 y8 y9 z0 z1 z2
          have hvs := HVS.out
          subst hvs
          have x0 := HXf.out.c 0 _ rfl
          have x1 := HXf.out.c 1 _ rfl
          have x2 := HXf.out.c 2 _ rfl
          have x3 := HXf.out.c 3 _ rfl
          have x4 := HXf.out.c 4 _ rfl
          have x5 := HXf.out.c 5 _ rfl
          have x6 := HXf.out.c 6 _ rfl
          have x7 := HXf.out.c 7 _ rfl
          have x8 := HXf.out.c 8 _ rfl
          have x9 := HXf.out.c 9 _ rfl
          refine bodyPost_ret (v := .agg ([.int .i64 ((2 : Int) + (k : Nat)), .string { data := #[] }, .slice none 0 0, .int .i64 0, .bool t1.isVar, .string tt, .int .i64 (t1.place : Nat), .bool u1.isVar, .string ut, .int .i64 (u1.place : Nat)] : List Value).toArray) (by simp [results, Tryz.results75, go_sem, x0, x1, x2, x3, x4, x5, x6, x7, x8, x9]) rfl ⟨?_, HNf.out, HGf.out⟩
          rw [HPV.out]
          exact ⟨_, by unfold partV; rw [HTT.out, HUT.out]; rfl, World.ownsRow_nil _ _ _ _⟩
end Go.Proofs.YtgllfcoafgphbaaGreatDoor
