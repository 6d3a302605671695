/-
  Rows that are written over: what stays.
-/
import Derived.Test.YtoelacloghkooaaDoorSameParts
namespace Go.Proofs.YtoelacloghkooaaDoor
open Go.ChangeShapes Go.WideShapes Go.ChangeAt Go.RowKit
set_option linter.unusedVariables false
/-- what lies below and what lies above stays -/
structure Mid (base top : Nat) (w w' : World) : Prop where
  os : w'.os = w.os
  tape : w'.tape = w.tape
  output : w'.output = w.output
  size : w'.heap.size = w.heap.size
  block : ∀ k, k < base ∨ top ≤ k → w'.heap[k]? = w.heap[k]?
theorem Mid.refl (base top : Nat) (w : World) : Mid base top w w := ⟨rfl, rfl, rfl, rfl, fun _ _ => rfl⟩
theorem set_size (w : World) (a : Addr) (u : Value) : (w.setCell a u).heap.size = w.heap.size := by simp [World.setCell]
theorem Mid.set {base top : Nat} {w w' : World} (h : Mid base top w w') {b : Nat} (hb : base ≤ b) (ht : b < top) (j : Nat) (u : Value) : Mid base top w (w'.setCell ⟨b, j, none⟩ u) :=
  ⟨h.os, h.tape, h.output, by rw [set_size]; exact h.size, fun k hk => by rw [Below.heap_setCell _ _ _ _ (by show k ≠ b; omega)]; exact h.block k hk⟩
theorem Mid.below {base top : Nat} {W w w' : World} (h : Mid base top w w') (hb : Below base W w) : Below base W w' :=
  ⟨h.os.trans hb.os, h.tape.trans hb.tape, h.output.trans hb.output, by rw [h.size]; exact hb.size, fun k hk => (h.block k (Or.inl hk)).trans (hb.block k hk)⟩
theorem own_mid {base top : Nat} {w w' : World} {e : TypeId} {s n : Nat} {v : Value} {xs : List Value} (h : w.ownsRow top e s v n xs) (hm : Mid base top w w') : w'.ownsRow top e s v n xs := by
  refine ⟨h.1, ?_⟩
  rcases h.2 with h2 | ⟨g, cap, cur, hv, hbg, hg, rest⟩
  · exact Or.inl h2
  · exact Or.inr ⟨g, cap, cur, hv, hbg, by rw [hm.block g (Or.inr hbg)]; exact hg, rest⟩
theorem PartsAt.mid {tT tP : TypeId} {base top : Nat} {w w' : World} {v : Value} {ps : List PPart} {vs : List Value} (h : PartsAt tT tP top w v ps vs) (hm : Mid base top w w') : PartsAt tT tP top w' v ps vs :=
  ⟨own_mid h.own hm, h.len, fun i p u hp hu => own_mid (h.args i p u hp hu) hm⟩
theorem RulesAt.mid {tT tP tR : TypeId} {base top : Nat} {w w' : World} {v : Value} {rs : List PRule} {hs bs : List Value} (h : RulesAt tT tP tR top w v rs hs bs) (hm : Mid base top w w') : RulesAt tT tP tR top w' v rs hs bs :=
  ⟨own_mid h.own hm, h.lh, h.lb, fun i p u hp hu => own_mid (h.heads i p u hp hu) hm, fun i p u hp hu => by obtain ⟨vs, hv⟩ := h.bodies i p u hp hu; exact ⟨vs, hv.mid hm⟩⟩
/-- a row of elements of z cells, elsewhere, that may be written -/
def SoftRow (g base top z : Nat) (w : World) (v : Value) : Prop :=
  ∃ (xa : Option Addr) (xn xc : Nat), v = .slice xa xn xc ∧ xn ≤ 1073741824 ∧ (xn = 0 ∨ ∃ h, xa = some ⟨h, 0, none⟩ ∧ base ≤ h ∧ h < top ∧ h ≠ g ∧ (∀ m, m < xn * z → ∃ x, w.cell? ⟨h, m, none⟩ = some x) ∧ ∀ m, w.frozen? ⟨h, m, none⟩ = false)
theorem SoftRow.nil (g base top z : Nat) (w : World) : SoftRow g base top z w (.slice none 0 0) := ⟨none, 0, 0, rfl, by omega, Or.inl rfl⟩
theorem some_set {w : World} {p a : Addr} {u : Value} (h : ∃ x, w.cell? p = some x) : ∃ x, (w.setCell a u).cell? p = some x := by
  obtain ⟨x, hx⟩ := h
  by_cases e : p = a
  · subst e; exact ⟨u, World.cell?_setCell_same _ _ _ hx⟩
  · exact ⟨x, by rw [World.cell?_setCell_other _ _ _ _ (fun h => e h.symm)]; exact hx⟩
theorem SoftRow.set {g base top z : Nat} {w : World} {v : Value} (h : SoftRow g base top z w v) (a : Addr) (u : Value) : SoftRow g base top z (w.setCell a u) v := by
  obtain ⟨xa, xn, xc, rfl, hn, h0 | ⟨k, rfl, h1, h2, h3, h4, h5⟩⟩ := h
  · exact ⟨xa, xn, xc, rfl, hn, Or.inl h0⟩
  · exact ⟨_, xn, xc, rfl, hn, Or.inr ⟨k, rfl, h1, h2, h3, fun m hm => some_set (h4 m hm), fun m => by rw [World.frozen?_setCell]; exact h5 m⟩⟩
/-- rows within rows that may be written: n elements of s cells at g, some of whose fields are rows -/
structure Spoilt (w1 : World) (base top g n s : Nat) (cols : List (Nat × Nat)) (w : World) : Prop where
  lo : base ≤ g
  hi : g < top
  mid : Mid base top w1 w
  cells : ∀ i, i < n * s → ∃ x, w.cell? ⟨g, i, none⟩ = some x
  thaw : ∀ i, w.frozen? ⟨g, i, none⟩ = false
  rows : ∀ i, i < n → ∀ oz ∈ cols, ∃ v, w.cell? ⟨g, i * s + oz.1, none⟩ = some v ∧ SoftRow g base top oz.2 w v
theorem Spoilt.set {w1 : World} {base top g n s : Nat} {cols : List (Nat × Nat)} {w : World} (h : Spoilt w1 base top g n s cols w) {b : Nat} (hb : base ≤ b) (ht : b < top) (j : Nat) (u : Value) (hc : b = g → (∃ oz ∈ cols, ∃ i, j = i * s + oz.1) → u = .slice none 0 0) : Spoilt w1 base top g n s cols (w.setCell ⟨b, j, none⟩ u) := by
  refine ⟨h.lo, h.hi, h.mid.set hb ht j u, fun i hi => some_set (h.cells i hi), fun i => by rw [World.frozen?_setCell]; exact h.thaw i, fun i hi oz ho => ?_⟩
  obtain ⟨v, hv, hs⟩ := h.rows i hi oz ho
  by_cases e : (⟨b, j, none⟩ : Addr) = ⟨g, i * s + oz.1, none⟩
  · cases e
    rw [hc rfl ⟨oz, ho, i, rfl⟩]
    exact ⟨_, World.cell?_setCell_same _ _ _ hv, SoftRow.nil _ _ _ _ _⟩
  · exact ⟨v, by rw [World.cell?_setCell_other _ _ _ _ e]; exact hv, hs.set _ _⟩
/-- another block's cells -/
theorem Spoilt.sets {w1 : World} {base top g n s : Nat} {cols : List (Nat × Nat)} {b : Nat} (hb : base ≤ b) (ht : b < top) (hne : b ≠ g) (us : List Value) : ∀ (j : Nat) (w : World), Spoilt w1 base top g n s cols w → Spoilt w1 base top g n s cols (sets w b j us) := by
  induction us with
  | nil => intro j w h; exact h
  | cons u us ih => intro j w h; exact ih (j + 1) _ (h.set hb ht j u (fun e => absurd e hne))
/-- an element of its own -/
theorem Spoilt.own {w1 : World} {base top g n s : Nat} {cols : List (Nat × Nat)} (us : List Value) : ∀ (j : Nat) (w : World), Spoilt w1 base top g n s cols w → (∀ (m : Nat) (u : Value), us[m]? = some u → (∃ oz ∈ cols, ∃ i, j + m = i * s + oz.1) → u = .slice none 0 0) → Spoilt w1 base top g n s cols (Go.Proofs.YtoelacloghkooaaDoor.sets w g j us) := by
  induction us with
  | nil => intro j w h _; exact h
  | cons u us ih =>
    intro j w h hc
    refine ih (j + 1) _ (h.set h.lo h.hi j u (fun _ he => hc 0 u rfl he)) (fun m v hv he => hc (m + 1) v (by simpa using hv) ?_)
    rw [show j + (m + 1) = j + 1 + m from by omega]; exact he
theorem soft_terms {w : World} {base top g : Nat} {e e2 : TypeId} {v v2 : Value} {l : List PTerm} {s2 n2 : Nat} {ys : List Value} (h : w.ownsRow base e 3 v l.length (termsV l)) (h2 : w.ownsRow base e2 s2 v2 n2 ys) (hne : e ≠ e2) (hv2 : v2.ownBlock = some g) (hl : l.length ≤ 1073741824) (ht : w.heap.size ≤ top) : SoftRow g base top 3 w v := by
  have hk := kinds_ne h h2 hne
  rcases h.2 with ⟨rfl, h0⟩ | ⟨k, cap, cur, rfl, hb, hg, hn, hc, hs, htk⟩
  · exact SoftRow.nil _ _ _ _ _
  · refine ⟨_, _, cap, rfl, hl, Or.inr ⟨k, rfl, hb, ?_, fun e => hk k rfl (by rw [hv2, e]), fun m hm => ?_, fun m => own_soft h m⟩⟩
    · have := (Array.getElem?_eq_some_iff.1 hg).1; omega
    · have hm2 : m < (termsV l).length := by rw [termsV_len]; exact hm
      have := h.cells rfl m _ (List.getElem?_eq_getElem hm2)
      rw [add_zero] at this
      exact ⟨_, this⟩
theorem partsV_len : ∀ (ps : List PPart) (vs : List Value), vs.length = ps.length → (partsV ps vs).length = ps.length * 10 := by
  intro ps
  induction ps with
  | nil => intro vs h; cases vs <;> simp [partsV] at *
  | cons p ps ih => intro vs h; cases vs with
    | nil => simp at h
    | cons v vs => simp only [partsV, List.length_append, List.length_cons]; rw [ih vs (by simpa using h)]; simp [partV]; omega
theorem soft_parts {w : World} {base top g : Nat} {tT tP e2 : TypeId} {v v2 : Value} {ps : List PPart} {vs : List Value} {s2 n2 : Nat} {ys : List Value} (h : PartsAt tT tP base w v ps vs) (h2 : w.ownsRow base e2 s2 v2 n2 ys) (hne : tP ≠ e2) (hv2 : v2.ownBlock = some g) (hl : ps.length ≤ 1073741824) (ht : w.heap.size ≤ top) : SoftRow g base top 10 w v := by
  have hk := kinds_ne h.own h2 hne
  rcases h.own.2 with ⟨rfl, h0⟩ | ⟨k, cap, cur, rfl, hb, hg, hn, hc, hs, htk⟩
  · exact SoftRow.nil _ _ _ _ _
  · refine ⟨_, _, cap, rfl, hl, Or.inr ⟨k, rfl, hb, ?_, fun e => hk k rfl (by rw [hv2, e]), fun m hm => ?_, fun m => own_soft h.own m⟩⟩
    · have := (Array.getElem?_eq_some_iff.1 hg).1; omega
    · have hm2 : m < (partsV ps vs).length := by rw [partsV_len ps vs h.len]; exact hm
      have := h.own.cells rfl m _ (List.getElem?_eq_getElem hm2)
      rw [add_zero] at this
      exact ⟨_, this⟩
/-- parts may be spoilt -/
theorem spoilt_parts {w1 w : World} {base top g cap : Nat} {tT tP : TypeId} {ps : List PPart} {vs : List Value} (h : PartsAt tT tP base w1 (.slice (some ⟨g, 0, none⟩) ps.length cap) ps vs) (hne : tT ≠ tP) (hl : ∀ p ∈ ps, p.atom.args.length ≤ 1073741824) (ht : w1.heap.size = top) (hg : w1.grownBy w none) : Spoilt w base top g ps.length 10 [(2, 3)] w := by
  have h' := h.kept hg (fun g e => by cases e)
  have hb := own_blk h.own rfl
  have hlt : g < w1.heap.size := hb.2
  refine ⟨hb.1, by omega, Mid.refl _ _ _, fun i hi => ?_, fun i => own_soft h'.own i, fun i hi oz ho => ?_⟩
  · have hm2 : i < (partsV ps vs).length := by rw [partsV_len ps vs h.len]; exact hi
    have := h'.own.cells rfl i _ (List.getElem?_eq_getElem hm2)
    rw [add_zero] at this
    exact ⟨_, this⟩
  · simp at ho; subst ho
    have hi2 : i < vs.length := by rw [h.len]; exact hi
    have hc := h'.own.cells rfl (i * 10 + 2) vs[i] (by rw [partsV_at ps vs i 2 ps[i] vs[i] (List.getElem?_eq_getElem hi) (List.getElem?_eq_getElem hi2) (by omega)]; rfl)
    rw [add_zero] at hc
    refine ⟨_, hc, ?_⟩
    have hr := soft_terms (top := top) (h.args i ps[i] vs[i] (List.getElem?_eq_getElem hi) (List.getElem?_eq_getElem hi2)) h.own hne rfl (hl _ (List.getElem_mem hi)) (by omega)
    obtain ⟨xa, xn, xc, he, hn, h0 | ⟨k, rfl, h1, h2, h3, h4, h5⟩⟩ := hr
    · exact ⟨xa, xn, xc, he, hn, Or.inl h0⟩
    · refine ⟨_, xn, xc, he, hn, Or.inr ⟨k, rfl, h1, h2, h3, fun m hm => ?_, fun m => ?_⟩⟩
      · obtain ⟨x, hx⟩ := h4 m hm; exact ⟨x, grown_cell hg hx⟩
      · rw [← h5 m]; exact World.frozen?_of_block (w := w1) (hg.block k (by omega) (by simp))
end Go.Proofs.YtoelacloghkooaaDoor
