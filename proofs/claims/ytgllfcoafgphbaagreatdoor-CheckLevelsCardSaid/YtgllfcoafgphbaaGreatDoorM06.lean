import Derived.Test.YtgllfcoafgphbaaGreatDoorM05
import Derived.Deep.DeepCutAuto
/-
  The document's Reader: term, many.
-/
namespace Go.Proofs.YtgllfcoafgphbaaGreatDoor
open Go.ChangeShapes Go.WideShapes Go.ChangeAt Go.RowKit
set_option linter.unusedVariables false
/-- cells that lie in a block of one's own -/
structure Box (w : World) (g : Nat) (vs : List Value) : Prop where
  c : ∀ (j : Nat) (v : Value), vs[j]? = some v → w.cell? ⟨g, j, none⟩ = some v
  f : ∀ (j : Nat) (v : Value), vs[j]? = some v → w.frozen? ⟨g, j, none⟩ = false
theorem Box.lt {w : World} {g : Nat} {vs : List Value} (h : Box w g vs) (h0 : 0 < vs.length) : g < w.heap.size := by
  rcases Nat.lt_or_ge g w.heap.size with h1 | h1
  · exact h1
  · have := h.c 0 vs[0] (List.getElem?_eq_getElem h0)
    simp [World.cell?, Array.getElem?_eq_none h1] at this
theorem Box.far {w w' : World} {g : Nat} {vs : List Value} (h : Box w g vs) (hb : w'.heap[g]? = w.heap[g]?) : Box w' g vs :=
  ⟨fun j v hj => (World.cell?_of_block hb).trans (h.c j v hj), fun j v hj => (World.frozen?_of_block hb).trans (h.f j v hj)⟩
theorem Box.grown {w w' : World} {g : Nat} {vs : List Value} {row : Option Nat} (h : Box w g vs) (h0 : 0 < vs.length) (hg : w.grownBy w' row) (hne : some g ≠ row) : Box w' g vs := h.far (hg.block g (h.lt h0) hne)
theorem RP.grown {w w' : World} {b : Nat} {s : ByteArray} {st : RSt} {row : Option Nat} (h : RP w b s st) (hg : w.grownBy w' row) (hne : some b ≠ row) : RP w' b s st := RS.far h (hg.block b (RS.lt h) hne)
theorem RP.other {w : World} {b : Nat} {s : ByteArray} {st : RSt} (h : RP w b s st) {R : Nat} (hne : ¬ b = R) (j : Nat) (u : Value) : RP (w.setCell ⟨R, j, none⟩ u) b s st := h.grown (fr_set w R j u) (fun e => hne (by cases e; rfl))
theorem Box.new (w : World) (cs : List Value) (t : TypeId) : Box (w.alloc (.cells cs.toArray t)) w.heap.size cs := by
  have hn := heap_alloc_new w (.cells cs.toArray t)
  constructor
  · intro j v hj
    simp only [World.cell?, hn]
    simpa using hj
  · intro j v hj
    simp only [World.frozen?, hn]
    simp
/-- a term as a value -/
def termV (t : PTerm) : List Value := [.bool t.isVar, .string (str t.text), .int .i64 (t.place : Nat)]
/-- a state in which the reader may be asked for a term -/
def Fit (s : ByteArray) (st : RSt) : Prop := st.i ≤ s.size ∧ (isS [34] st = true → st.i < s.size) ∧ (st.e = 0 → st.kd ≠ 6)
theorem sgn_fit (s : ByteArray) (p : Nat) (h : p ≤ s.size) (st : RSt) (hi : st.i = (sgn s p).i) (hk : st.kd = (sgn s p).kd) (ht : st.tx = (sgn s p).tx) : Fit s st := by
  refine ⟨by rw [hi]; exact sgn_i s p h, fun g => ?_, fun _ => by rw [hk]; exact (kd_is s p).2.2.2.2⟩
  have g2 : isS [34] (sgn s p) = true := by
    unfold isS at g ⊢
    rw [hk, ht] at g
    simp only [Bool.and_eq_true, decide_eq_true_eq] at g
    simp [g.1.2, g.2]
  rw [is34, starts_one] at g2
  obtain ⟨hlt, hc⟩ := of_decide_eq_true g2
  rw [hi]
  rcases sgn_cases s p with ⟨_, e, _⟩ | ⟨_, g, _, e⟩ | ⟨_, _, e, _⟩
  · omega
  · rw [hc] at g; exact absurd g (by decide)
  · rw [e, hc]; exact hlt
theorem nextS_fit (s : ByteArray) (st : RSt) (h : st.i ≤ s.size) : Fit s (nextS s st) := by
  by_cases he : st.e = 0
  · have hn : nextS s st = { sgn s (skipTo s.data.toList st.i) with x := st.x } := by unfold nextS; rw [if_pos he]
    rw [hn]
    exact sgn_fit s _ (skip_le s _ h) _ rfl rfl rfl
  · have := (nextS_same s st).1
    refine ⟨nextS_i s st h, fun g => ?_, fun g => absurd (this.symm.trans g) he⟩
    rw [isS_dead (by rw [this]; exact he)] at g; cases g
theorem fit_dead (s : ByteArray) {st : RSt} (h : st.i ≤ s.size) (he : st.e ≠ 0) : Fit s st := ⟨h, fun g => (by rw [isS_dead he] at g; cases g), fun g => absurd g he⟩
theorem failS_fit (s : ByteArray) {st : RSt} (e x : Nat) (h : Fit s st) (he : e ≠ 0) : Fit s (failS e x st) := by
  unfold failS; split
  · exact fit_dead s (st := { st with e := e, x := x }) h.1 he
  · exact h
theorem strGo_le (l : List UInt8) : ∀ (n p : Nat) (acc : List UInt8), l.length ≤ n → (∀ e x, strGo l p acc = .error (e, x) → x ≤ p + l.length) ∧ (∀ o q, strGo l p acc = .ok (o, q) → q ≤ p + l.length) := by
  intro n
  induction n generalizing l with
  | zero =>
    intro p acc hl
    cases l with
    | nil => exact ⟨fun e x h => (by rw [strGo] at h; cases h; simp), fun o q h => by rw [strGo] at h; cases h⟩
    | cons c t => simp at hl
  | succ n ih =>
    intro p acc hl
    cases l with
    | nil => exact ⟨fun e x h => (by rw [strGo] at h; cases h; simp), fun o q h => by rw [strGo] at h; cases h⟩
    | cons c t =>
      simp at hl
      rw [strGo.eq_def]
      simp only [List.length_cons]
      split
      · exact ⟨fun e x h => (by cases h), fun o q h => by cases h; omega⟩
      · split
        · exact ⟨fun e x h => (by cases h; omega), fun o q h => by cases h⟩
        · split
          · cases t with
            | nil => exact ⟨fun e x h => (by cases h; simp), fun o q h => by cases h⟩
            | cons d t2 =>
              simp at hl
              simp only [List.length_cons]
              split
              · have := ih t2 (p + 2) (acc ++ [10]) (by omega)
                exact ⟨fun e x h => (by have := this.1 e x h; omega), fun o q h => by have := this.2 o q h; omega⟩
              · split
                · have := ih t2 (p + 2) (acc ++ [d]) (by omega)
                  exact ⟨fun e x h => (by have := this.1 e x h; omega), fun o q h => by have := this.2 o q h; omega⟩
                · exact ⟨fun e x h => (by cases h; omega), fun o q h => by cases h⟩
          · have := ih t (p + 1) (acc ++ [c]) hl
            exact ⟨fun e x h => (by have := this.1 e x h; omega), fun o q h => by have := this.2 o q h; omega⟩
theorem textS_i (s : ByteArray) (st : RSt) (h : st.i < s.size) : (textS s st).i ≤ s.size := by
  have hl : (s.data.toList.drop (st.i + 1)).length = s.size - (st.i + 1) := by simp
  have := strGo_le (s.data.toList.drop (st.i + 1)) _ (st.i + 1) [] (Nat.le_refl _)
  unfold textS
  cases hg : strGo (s.data.toList.drop (st.i + 1)) (st.i + 1) [] with
  | error er => obtain ⟨e, x⟩ := er; have := this.1 e x hg; simp only []; omega
  | ok r => obtain ⟨o, q⟩ := r; have := this.2 o q hg; simp only []; omega
theorem quotS_i (s : ByteArray) (st : RSt) (h : Fit s st) : (quotS s st).i ≤ s.size := by
  unfold quotS
  split
  · rename_i hq
    have := textS_i s st (h.2.1 hq)
    split
    · exact failS_i _ _ _ _ this
    · exact this
  · exact h.1
theorem checkS_i (s : ByteArray) (st : RSt) (h : st.i ≤ s.size) : (checkS st).i ≤ s.size := by
  unfold checkS; split
  · exact h
  · exact failS_i _ _ _ _ h
theorem termS_fit (s : ByteArray) (st : RSt) (h : Fit s st) : Fit s (termS s st).2 := by
  have h1 := checkS_i s _ (quotS_i s st h)
  unfold termS; split
  · exact nextS_fit s _ h1
  · exact fit_dead s h1 (by assumption)
theorem rtextS_any (b : Nat) (s : ByteArray) (st : RSt) (w : World) (h : RP w b s st) (he : st.e = 0) (hi : st.i < s.size) (hs : s.size ≤ 1073741824) :
    Calls Tryz.prog 128 #[.pointer (some ⟨b, 0, none⟩)] w fun en w' => en = .returned (.tuple #[]) ∧ RP w' b s (textS s st) ∧ w.grownBy w' (some b) := by
  obtain ⟨i, kd, tx, a, e, x⟩ := st
  simp only [] at he hi
  subst he
  exact rtext_any b s i kd tx a x w h hi hs
theorem isS_e {sg : List UInt8} {st : RSt} (h : isS sg st = true) : st.e = 0 := by
  unfold isS at h; simp only [Bool.and_eq_true, decide_eq_true_eq] at h; exact h.1.1
theorem termS_ok {s : ByteArray} {st q : RSt} (h : quotS s st = q) (hk : termKind q.kd = true) (he : q.e = 0) : termS s st = (⟨decide (q.kd = 2), q.tx.data.toList, q.a⟩, nextS s q) := by
  have hc : checkS q = q := by unfold checkS; rw [hk]; rfl
  unfold termS; rw [h, hc, if_pos he]
theorem termS_bad {s : ByteArray} {st q : RSt} (h : quotS s st = q) (hk : termKind q.kd = true) (he : q.e ≠ 0) : termS s st = (noTerm, q) := by
  have hc : checkS q = q := by unfold checkS; rw [hk]; rfl
  unfold termS; rw [h, hc, if_neg he]
theorem termS_no {s : ByteArray} {st q : RSt} (h : quotS s st = q) (hk : termKind q.kd = false) : termS s st = (noTerm, failS 2 q.a q) := by
  have hc : checkS q = failS 2 q.a q := by unfold checkS; rw [hk]; rfl
  have he : ¬ (failS 2 q.a q).e = 0 := by
    unfold failS; split
    · simp
    · assumption
  unfold termS; rw [h, hc, if_neg he]
set_option maxRecDepth 100000 in
set_option maxHeartbeats 4000000 in
theorem rterm_any (b : Nat) (s : ByteArray) (st : RSt) (w : World) (h : RP w b s st) (hf : Fit s st) (hs : s.size ≤ 1073741824) :
    Calls Tryz.prog 100 #[.pointer (some ⟨b, 0, none⟩)] w fun en w' => en = .returned (.agg (termV (termS s st).1).toArray) ∧ RP w' b s (termS s st).2 ∧ w.grownBy w' (some b) := by
  have HS : Hid (RP w b s st) := h
  have HF : Hid (Fit s st) := hf
  have hbw : b < w.heap.size := RS.lt h
  clear h hf
  go_enter Tryz.func100, Tryz.ntmps100
  go_wp2_with fail
  generalize hw0 : World.alloc _ _ = w0
  have HX0 : Hid (Box w0 w.heap.size [.bool false, .string { data := #[] }, .int .i64 0]) := by rw [← hw0]; exact Box.new _ _ _
  have HS0 : Hid (RP w0 b s st) := by rw [← hw0]; exact HS.out.grown (fr_alloc _ _ none) (by simp)
  have HG0 : Hid (w.grownBy w0 (some b)) := by rw [← hw0]; exact fr_alloc _ _ _
  clear hw0
  refine (ris_any b s (str [34]) st _ HS0.out).mono ?_
  rintro en w1 ⟨rfl, rfl⟩
  rw [data_str]
  obtain ⟨B, HB⟩ : ∃ B, Hid (isS [34] st = B) := ⟨_, (rfl : _ = _)⟩
  rw [HB.out]
  go_upto_if 5 with fail
  go_cut [] (fun wc => Hid (RP wc b s (quotS s st)) ∧ Hid (w.grownBy wc (some b)) ∧ Hid (Box wc w.heap.size [.bool false, .string { data := #[] }, .int .i64 0]))
  case first =>
    cases B with
    | false =>
      have HQ : Hid (quotS s st = st) := by show _ = _; unfold quotS; rw [HB.out]; rfl
      go_wp2_with fail
      go_meet
      case rel => exact ⟨by rw [HQ.out]; exact HS0, HG0, HX0⟩
    | true =>
      have HE0 : Hid (st.e = 0) := isS_e HB.out
      go_wp2_with fail
      refine (rtextS_any b s st _ HS0.out HE0.out (HF.out.2.1 HB.out) hs).mono ?_
      rintro en w2 ⟨rfl, HN, HFR⟩
      have HX2 : Hid (Box w2 w.heap.size [.bool false, .string { data := #[] }, .int .i64 0]) := HX0.out.grown (by simp) HFR (by simp; omega)
      have HG2 : Hid (w.grownBy w2 (some b)) := fr_both HG0.out HFR
      have HQ : Hid (quotS s st = if (textS s st).e = 0 ∧ 200 < (textS s st).tx.size then failS 1 (textS s st).a (textS s st) else textS s st) := by show _ = _; unfold quotS; rw [if_pos HB.out]
      obtain ⟨t, HT⟩ : ∃ t, Hid (textS s st = t) := ⟨_, (rfl : _ = _)⟩
      rw [HT.out] at HN HQ
      have HN2 : Hid (RP w2 b s t) := HN
      clear HN HFR
      obtain ⟨c0, c1, c2, c3, c4, c5, c6, f1, f2, f3, f4, f5, f6⟩ := HN2.out
      by_cases he : t.e = 0
      · have hb1 : ((t.e : Int) == 0) = true := by simp [he]
        by_cases hl : 200 < t.tx.size
        · have HQ2 : Hid (quotS s st = failS 1 t.a t) := by show _ = _; rw [HQ.out, if_pos ⟨he, hl⟩]
          clear he
          go_wp2_with fail
          refine (rfailS_any b s t 1 t.a _ HN2.out).mono ?_
          rintro en w3 ⟨rfl, HN, HFR⟩
          have HR : Hid (RP w3 b s (quotS s st)) := by rw [HQ2.out]; exact HN
          have HG3 : Hid (w.grownBy w3 (some b)) := fr_both HG2.out HFR.g
          have HX3 : Hid (Box w3 w.heap.size [.bool false, .string { data := #[] }, .int .i64 0]) := HX2.out.grown (by simp) HFR.g (by simp; omega)
          clear HN HFR
          go_wp2_with fail
          go_meet
          case rel => exact ⟨HR, HG3, HX3⟩
        · have HQ2 : Hid (quotS s st = t) := by show _ = _; rw [HQ.out, if_neg (fun g => hl g.2)]
          have hl2 : t.tx.size ≤ 200 := by omega
          clear he hl
          go_wp2_with fail
          go_meet
          case rel => exact ⟨by rw [HQ2.out]; exact HN2, HG2, HX2⟩
      · have hb1 : ((t.e : Int) == 0) = false := by rw [beq_eq_false_iff_ne]; omega
        have HQ2 : Hid (quotS s st = t) := by show _ = _; rw [HQ.out, if_neg (fun g => he g.1)]
        clear he
        go_wp2_with fail
        go_meet
        case rel => exact ⟨by rw [HQ2.out]; exact HN2, HG2, HX2⟩
  case rest =>
    obtain ⟨HR, HG, HX⟩ := hcut
    have HQI : Hid ((quotS s st).i ≤ s.size) := quotS_i s st HF.out
    obtain ⟨q, HQ⟩ : ∃ q, Hid (quotS s st = q) := ⟨_, (rfl : _ = _)⟩
    rw [HQ.out] at HR HQI
    clear HS0 HG0 HX0 HS HF HB
    obtain ⟨c0, c1, c2, c3, c4, c5, c6, f1, f2, f3, f4, f5, f6⟩ := HR.out
    have x0 := HX.out.c 0 _ rfl
    have x1 := HX.out.c 1 _ rfl
    have x2 := HX.out.c 2 _ rfl
    have y0 := HX.out.f 0 _ rfl
    have y1 := HX.out.f 1 _ rfl
    have y2 := HX.out.f 2 _ rfl
    have hwc : w.heap.size < wc.heap.size := HX.out.lt (by simp)
    have hbc : b < wc.heap.size := by omega
    have hxb : ¬ b = w.heap.size := by omega
    go_upto_region 6 with fail
    generalize hw4 : World.alloc _ _ = w4
    have HX4 : Hid (Box w4 w.heap.size [.bool false, .string { data := #[] }, .int .i64 0]) := by rw [← hw4]; exact HX.out.grown (by simp) (fr_alloc _ _ none) (by simp)
    have HY4 : Hid (Box w4 wc.heap.size [.int .i64 (q.kd : Nat), .string q.tx, .int .i64 (q.a : Nat)]) := by rw [← hw4]; exact Box.new _ _ _
    have HR4 : Hid (RP w4 b s q) := by rw [← hw4]; exact HR.out.grown (fr_alloc _ _ none) (by simp)
    have HG4 : Hid (w.grownBy w4 (some b)) := by rw [← hw4]; exact fr_both HG.out (fr_alloc _ _ _)
    clear hw4 x0 x1 x2 y0 y1 y2 c0 c1 c2 c3 c4 c5 c6 f1 f2 f3 f4 f5 f6 HX HR HG
    obtain ⟨c0, c1, c2, c3, c4, c5, c6, f1, f2, f3, f4, f5, f6⟩ := HR4.out
    have x0 := HX4.out.c 0 _ rfl
    have x1 := HX4.out.c 1 _ rfl
    have x2 := HX4.out.c 2 _ rfl
    have y0 := HX4.out.f 0 _ rfl
    have y1 := HX4.out.f 1 _ rfl
    have y2 := HX4.out.f 2 _ rfl
    have z0 := HY4.out.c 0 _ rfl
    have z1 := HY4.out.c 1 _ rfl
    have z2 := HY4.out.c 2 _ rfl
    have hcase : (((q.kd : Int) != 1) = false ∨ (((q.kd : Int) != 1) = true ∧ ((q.kd : Int) != 2) = false) ∨ (((q.kd : Int) != 1) = true ∧ ((q.kd : Int) != 2) = true ∧ ((q.kd : Int) != 3) = false) ∨ (((q.kd : Int) != 1) = true ∧ ((q.kd : Int) != 2) = true ∧ ((q.kd : Int) != 3) = true ∧ ((q.kd : Int) != 6) = false)) ∧ Hid (termKind q.kd = true) ∨
        (((q.kd : Int) != 1) = true ∧ ((q.kd : Int) != 2) = true ∧ ((q.kd : Int) != 3) = true ∧ ((q.kd : Int) != 6) = true) ∧ Hid (termKind q.kd = false) := by
      have e1 : ∀ n : Nat, ((q.kd : Int) != (n : Nat)) = false ↔ q.kd = n := fun n => by simp [bne]; omega
      have e2 : ∀ n : Nat, ((q.kd : Int) != (n : Nat)) = true ↔ ¬ q.kd = n := fun n => by rw [bne_iff_ne]; omega
      have f1 := e1 1
      have f2 := e1 2
      have f3 := e1 3
      have f6 := e1 6
      have g1 := e2 1
      have g2 := e2 2
      have g3 := e2 3
      have g6 := e2 6
      simp only [Int.cast_ofNat_Int] at f1 f2 f3 f6 g1 g2 g3 g6
      unfold Hid
      by_cases h1 : q.kd = 1
      · left; exact ⟨Or.inl (f1.2 h1), by simp [termKind, h1]⟩
      · by_cases h2 : q.kd = 2
        · left; exact ⟨Or.inr (Or.inl ⟨g1.2 h1, f2.2 h2⟩), by simp [termKind, h2]⟩
        · by_cases h3 : q.kd = 3
          · left; exact ⟨Or.inr (Or.inr (Or.inl ⟨g1.2 h1, g2.2 h2, f3.2 h3⟩)), by simp [termKind, h3]⟩
          · by_cases h6 : q.kd = 6
            · left; exact ⟨Or.inr (Or.inr (Or.inr ⟨g1.2 h1, g2.2 h2, g3.2 h3, f6.2 h6⟩)), by simp [termKind, h6]⟩
            · right; exact ⟨⟨g1.2 h1, g2.2 h2, g3.2 h3, g6.2 h6⟩, by simp [termKind, h1, h2, h3, h6]⟩
    have HNT : Hid (termV noTerm = [.bool false, .string { data := #[] }, .int .i64 0]) := (rfl : _ = _)
    rcases hcase with ⟨hk, HK⟩ | ⟨⟨g1, g2, g3, g6⟩, HK⟩
    · by_cases he : q.e = 0
      · have hb1 : ((q.e : Int) != 0) = false := by simp [he]
        have HT : Hid (termS s st = (⟨decide (q.kd = 2), q.tx.data.toList, q.a⟩, nextS s q)) := termS_ok HQ.out HK.out he
        have HV : Hid (termV ⟨decide (q.kd = 2), q.tx.data.toList, q.a⟩ = [.bool ((q.kd : Int) == 2), .string q.tx, .int .i64 (q.a : Nat)]) := by
          show _ = _
          unfold termV
          rw [str_data]
          have : decide (q.kd = 2) = ((q.kd : Int) == 2) := by rw [Bool.eq_iff_iff]; simp; omega
          simp only [this]
        clear he
        rcases hk with g1 | ⟨g1, g2⟩ | ⟨g1, g2, g3⟩ | ⟨g1, g2, g3, g6⟩
        all_goals
          go_wp2_with fail
          refine (rnext_any b s q _ HR4.out HQI.out hs).mono ?_
          rintro en w5 ⟨rfl, HN, HFR⟩
          have HN5 : Hid (RP w5 b s (nextS s q)) := HN
          have HG5 : Hid (w.grownBy w5 (some b)) := fr_both HG4.out HFR.g
          have HX5 : Hid (Box w5 w.heap.size [.bool false, .string { data := #[] }, .int .i64 0]) := HX4.out.grown (by simp) HFR.g (by simp; omega)
          have HY5 : Hid (Box w5 wc.heap.size [.int .i64 (q.kd : Nat), .string q.tx, .int .i64 (q.a : Nat)]) := HY4.out.grown (by simp) HFR.g (by simp; omega)
          clear HN HFR c0 c1 c2 c3 c4 c5 c6 f1 f2 f3 f4 f5 f6 x0 x1 x2 y0 y1 y2 z0 z1 z2
          have x0 := HX5.out.c 0 _ rfl
          have x1 := HX5.out.c 1 _ rfl
          have x2 := HX5.out.c 2 _ rfl
          have y0 := HX5.out.f 0 _ rfl
          have y1 := HX5.out.f 1 _ rfl
          have y2 := HX5.out.f 2 _ rfl
          have z0 := HY5.out.c 0 _ rfl
          have z1 := HY5.out.c 1 _ rfl
          have z2 := HY5.out.c 2 _ rfl
          go_wp2
          refine bodyPost_ret (v := .agg #[.bool ((q.kd : Int) == 2), .string q.tx, .int .i64 (q.a : Nat)]) (by simp [results, Tryz.results100, go_sem, x0, x1, x2]) rfl ⟨?_, ?_, ?_⟩
          · rw [HT.out, HV.out]
          · rw [HT.out]; exact ((HN5.out.other hxb _ _).other hxb _ _).other hxb _ _
          · exact fr_new (fr_new (fr_new HG5.out (Nat.le_refl _) _ _) (Nat.le_refl _) _ _) (Nat.le_refl _) _ _
      · have hb1 : ((q.e : Int) != 0) = true := by rw [bne_iff_ne]; omega
        have HT : Hid (termS s st = (noTerm, q)) := termS_bad HQ.out HK.out he
        clear he
        rcases hk with g1 | ⟨g1, g2⟩ | ⟨g1, g2, g3⟩ | ⟨g1, g2, g3, g6⟩
        all_goals
          go_wp2
          refine bodyPost_ret (v := .agg #[.bool false, .string { data := #[] }, .int .i64 0]) (by simp [results, Tryz.results100, go_sem, x0, x1, x2]) rfl ⟨?_, ?_, ?_⟩
          · rw [HT.out, HNT.out]
          · rw [HT.out]; exact ((HR4.out.other hxb _ _).other hxb _ _).other hxb _ _
          · exact fr_new (fr_new (fr_new HG4.out (Nat.le_refl _) _ _) (Nat.le_refl _) _ _) (Nat.le_refl _) _ _
    · have HT : Hid (termS s st = (noTerm, failS 2 q.a q)) := termS_no HQ.out HK.out
      go_wp2_with fail
      refine (rfailS_any b s q 2 q.a _ HR4.out).mono ?_
      rintro en w5 ⟨rfl, HN, HFR⟩
      have HN5 : Hid (RP w5 b s (failS 2 q.a q)) := HN
      have HG5 : Hid (w.grownBy w5 (some b)) := fr_both HG4.out HFR.g
      have HX5 : Hid (Box w5 w.heap.size [.bool false, .string { data := #[] }, .int .i64 0]) := HX4.out.grown (by simp) HFR.g (by simp; omega)
      have HE5 : Hid ((((failS 2 q.a q).e : Int) != 0) = true) := by
        show _ = _
        rw [bne_iff_ne]
        unfold failS; split
        · simp
        · rename_i h; omega
      clear HN HFR c0 c1 c2 c3 c4 c5 c6 f1 f2 f3 f4 f5 f6 x0 x1 x2 y0 y1 y2 z0 z1 z2
      obtain ⟨c0, c1, c2, c3, c4, c5, c6, f1, f2, f3, f4, f5, f6⟩ := HN5.out
      have x0 := HX5.out.c 0 _ rfl
      have x1 := HX5.out.c 1 _ rfl
      have x2 := HX5.out.c 2 _ rfl
      have y0 := HX5.out.f 0 _ rfl
      have y1 := HX5.out.f 1 _ rfl
      have y2 := HX5.out.f 2 _ rfl
      have hb1 := HE5.out
      generalize failS 2 q.a q = qq at *
      go_wp2
      refine bodyPost_ret (v := .agg #[.bool false, .string { data := #[] }, .int .i64 0]) (by simp [results, Tryz.results100, go_sem, x0, x1, x2]) rfl ⟨?_, ?_, ?_⟩
      · rw [HT.out, HNT.out]
      · rw [HT.out]; exact ((HN5.out.other hxb _ _).other hxb _ _).other hxb _ _
      · exact fr_new (fr_new (fr_new HG5.out (Nat.le_refl _) _ _) (Nat.le_refl _) _ _) (Nat.le_refl _) _ _
end Go.Proofs.YtgllfcoafgphbaaGreatDoor

/-
  The document's Reader: many.
-/
namespace Go.Proofs.YtgllfcoafgphbaaGreatDoor
open Go.ChangeShapes Go.WideShapes Go.ChangeAt Go.RowKit
set_option linter.unusedVariables false
theorem manyS_fit (s : ByteArray) (no : Bool) {st : RSt} (h : Fit s st) : Fit s (manyS no st) := by
  unfold manyS; split
  · exact failS_fit s _ _ h (by decide)
  · exact h
/-- behind too many terms no other one is read -/
theorem many_stops (s : ByteArray) (st : RSt) (h : Fit s st) (sg : List UInt8) : isS sg (termS s (manyS false st)).2 = false := by
  by_cases he : st.e = 0
  · unfold manyS
    split
    · have hd : (failS 7 st.a st).e ≠ 0 := by unfold failS; rw [if_pos he]; simp
      rw [termS_dead s hd]; exact isS_dead hd sg
    · rename_i hn
      simp only [Bool.or_eq_true, decide_eq_true_eq, Bool.false_and, Bool.false_eq_true, or_false, not_or] at hn
      have hq : quotS s st = st := by unfold quotS; rw [if_neg hn.2]
      have hk : termKind st.kd = false := by
        have := h.2.2 he
        simp [termKind, hn.1.1.1, hn.1.1.2, hn.1.2, this]
      rw [termS_no hq hk]
      apply isS_dead
      unfold failS; rw [if_pos he]; simp
  · rw [manyS_dead he, termS_dead s he]; exact isS_dead he sg
set_option maxRecDepth 100000 in
set_option maxHeartbeats 4000000 in
theorem rmany_any (b : Nat) (s : ByteArray) (st : RSt) (no : Bool) (w : World) (h : RP w b s st) :
    Calls Tryz.prog 74 #[.pointer (some ⟨b, 0, none⟩), .bool no] w fun en w' => en = .returned (.tuple #[]) ∧ RP w' b s (manyS no st) ∧ RFx w w' b := by
  have HS : Hid (RP w b s st) := h
  obtain ⟨c0, c1, c2, c3, c4, c5, c6, f1, f2, f3, f4, f5, f6⟩ := h
  have e1 : ∀ n : Nat, ((st.kd : Int) == (n : Nat)) = true ↔ st.kd = n := fun n => by simp; omega
  have e2 : ∀ n : Nat, ((st.kd : Int) == (n : Nat)) = false ↔ ¬ st.kd = n := fun n => by rw [beq_eq_false_iff_ne]; omega
  obtain ⟨Q, HQ⟩ : ∃ Q, Hid (isS [34] st = Q) := ⟨_, (rfl : _ = _)⟩
  have hcase : ((((st.kd : Int) == 1) = true ∨ (((st.kd : Int) == 1) = false ∧ ((st.kd : Int) == 2) = true) ∨ (((st.kd : Int) == 1) = false ∧ ((st.kd : Int) == 2) = false ∧ ((st.kd : Int) == 3) = true) ∨ (((st.kd : Int) == 1) = false ∧ ((st.kd : Int) == 2) = false ∧ ((st.kd : Int) == 3) = false ∧ no = true ∧ ((st.kd : Int) == 4) = true)) ∧ Hid (manyS no st = failS 7 st.a st)) ∨
      ((((st.kd : Int) == 1) = false ∧ ((st.kd : Int) == 2) = false ∧ ((st.kd : Int) == 3) = false ∧ no = true ∧ ((st.kd : Int) == 4) = false) ∧ Hid (manyS no st = if Q then failS 7 st.a st else st)) ∨
      ((((st.kd : Int) == 1) = false ∧ ((st.kd : Int) == 2) = false ∧ ((st.kd : Int) == 3) = false ∧ no = false) ∧ Hid (manyS no st = if Q then failS 7 st.a st else st)) := by
    have a1 := e1 1
    have a2 := e1 2
    have a3 := e1 3
    have a4 := e1 4
    have b1 := e2 1
    have b2 := e2 2
    have b3 := e2 3
    have b4 := e2 4
    simp only [Int.cast_ofNat_Int] at a1 a2 a3 a4 b1 b2 b3 b4
    have hq := HQ.out
    unfold Hid manyS
    rw [hq]
    by_cases h1 : st.kd = 1
    · left; exact ⟨Or.inl (a1.2 h1), by simp [h1]⟩
    · by_cases h2 : st.kd = 2
      · left; exact ⟨Or.inr (Or.inl ⟨b1.2 h1, a2.2 h2⟩), by simp [h2]⟩
      · by_cases h3 : st.kd = 3
        · left; exact ⟨Or.inr (Or.inr (Or.inl ⟨b1.2 h1, b2.2 h2, a3.2 h3⟩)), by simp [h3]⟩
        · cases no with
          | true =>
            by_cases h4 : st.kd = 4
            · left; exact ⟨Or.inr (Or.inr (Or.inr ⟨b1.2 h1, b2.2 h2, b3.2 h3, rfl, a4.2 h4⟩)), by simp [h4]⟩
            · right; left; exact ⟨⟨b1.2 h1, b2.2 h2, b3.2 h3, rfl, b4.2 h4⟩, by simp [h1, h2, h3, h4]⟩
          | false => right; right; exact ⟨⟨b1.2 h1, b2.2 h2, b3.2 h3, rfl⟩, by simp [h1, h2, h3]⟩
  clear e1 e2
  generalize manyS no st = M at hcase ⊢
  go_enter Tryz.func74, Tryz.ntmps74
  rcases hcase with ⟨hk, HM⟩ | ⟨⟨g1, g2, g3, rfl, g4⟩, HM⟩ | ⟨⟨g1, g2, g3, rfl⟩, HM⟩
  · rcases hk with g1 | ⟨g1, g2⟩ | ⟨g1, g2, g3⟩ | ⟨g1, g2, g3, rfl, g4⟩
    all_goals
      go_wp2_with fail
      refine (rfailS_any b s st 7 st.a _ HS.out).mono ?_
      rintro en w5 ⟨rfl, HN, HFR⟩
      have HN5 : Hid (RP w5 b s M) := by rw [HM.out]; exact HN
      have HG5 : Hid (RFx w w5 b) := HFR
      clear HN HFR
      go_wp2
      go_end0
      exact ⟨rfl, HN5.out, HG5.out⟩
  all_goals
    go_wp2_with fail
    refine (ris_any b s (str [34]) st _ HS.out).mono ?_
    rintro en w1 ⟨rfl, rfl⟩
    rw [data_str, HQ.out]
    cases Q with
    | true =>
      go_wp2_with fail
      refine (rfailS_any b s st 7 st.a _ HS.out).mono ?_
      rintro en w5 ⟨rfl, HN, HFR⟩
      have HN5 : Hid (RP w5 b s M) := by rw [HM.out]; exact HN
      have HG5 : Hid (RFx w w5 b) := HFR
      clear HN HFR
      go_wp2
      go_end0
      exact ⟨rfl, HN5.out, HG5.out⟩
    | false =>
      have HN5 : Hid (RP w b s M) := by rw [HM.out]; exact HS.out
      go_wp2
      go_end0
      exact ⟨rfl, HN5.out, RFx.refl _ _⟩
end Go.Proofs.YtgllfcoafgphbaaGreatDoor

/-
  The document's Reader: atom.
-/
namespace Go.Proofs.YtgllfcoafgphbaaGreatDoor
open Go.ChangeShapes Go.WideShapes Go.ChangeAt Go.RowKit
set_option linter.unusedVariables false
def termsV (l : List PTerm) : List Value := l.flatMap termV
theorem termsV_len (l : List PTerm) : (termsV l).length = l.length * 3 := by
  induction l with
  | nil => rfl
  | cons t l ih => simp [termsV, List.flatMap_cons, termV] at ih ⊢; omega
theorem termsV_snoc (l : List PTerm) (t : PTerm) : termsV l ++ termV t = termsV (l ++ [t]) := by simp [termsV]
theorem infoTerm : (Tryz.prog.info? 45).map (fun i => (i.zero, i.size, i.bytes)) = some (some (.agg #[.bool false, .string { data := #[] }, .int .i64 0]), 3, 32) := by kernel_rfl
theorem Box.at (w : World) (g : Nat) (cs : List Value) (t : TypeId) (hg : g = w.heap.size) : Box (w.alloc (.cells cs.toArray t)) g cs := by subst hg; exact Box.new w cs t
theorem Box.set {w : World} {g : Nat} {vs : List Value} (h : Box w g vs) (j : Nat) (old u : Value) (hj : vs[j]? = some old) : Box (w.setCell ⟨g, j, none⟩ u) g (vs.set j u) := by
  constructor
  · intro k v hk
    by_cases e : j = k
    · subst e
      rw [List.getElem?_set_self (List.getElem?_eq_some_iff.1 hj).1] at hk
      cases hk
      exact World.cell?_setCell_same _ _ _ (h.c j old hj)
    · rw [List.getElem?_set_ne e] at hk
      rw [World.cell?_setCell_other _ _ _ _ (by intro g; cases g; exact e rfl)]
      exact h.c k v hk
  · intro k v hk
    rw [World.frozen?_setCell]
    by_cases e : j = k
    · subst e; exact h.f j old hj
    · rw [List.getElem?_set_ne e] at hk; exact h.f k v hk
/-- the document's atom, as it is handed back -/
def AtomR (base : Nat) (a : PAtom) (en : Ending) (w : World) : Prop :=
  ∃ v, en = .returned (.agg #[.string (str a.name), v, .int .i64 (a.place : Nat)]) ∧ w.ownsRow base 45 3 v a.args.length (termsV a.args)
def lenAt (w : World) (g j : Nat) : Nat := match w.cell? ⟨g, j, none⟩ with
  | some (.slice _ n _) => n
  | _ => 0
theorem lenAt_is {w : World} {g j n c : Nat} {a : Option Addr} (h : w.cell? ⟨g, j, none⟩ = some (.slice a n c)) : lenAt w g j = n := by unfold lenAt; rw [h]
theorem argsS_dead (s : ByteArray) (n : Nat) (acc : List PTerm) {st : RSt} (h : st.e ≠ 0) : argsS s n acc st = (acc, st) := by
  cases n with
  | zero => rfl
  | succ n => unfold argsS; rw [if_neg h]
theorem argsS_step (s : ByteArray) (n : Nat) (acc : List PTerm) {st : RSt} (h : st.e = 0) : argsS s (n + 1) acc st =
    if isS [44] (termS s (if 8 ≤ acc.length then manyS false st else st)).2 then argsS s n (acc ++ [(termS s (if 8 ≤ acc.length then manyS false st else st)).1]) (nextS s (termS s (if 8 ≤ acc.length then manyS false st else st)).2)
    else (acc ++ [(termS s (if 8 ≤ acc.length then manyS false st else st)).1], (termS s (if 8 ≤ acc.length then manyS false st else st)).2) := by
  rw [argsS, if_pos h]
/-- what an append leaves as it was -/
theorem app_block {w w4 : World} {o1 o2 : Obj} {row : Option Nat} (hg : ((w.alloc o1).alloc o2).grownBy w4 row) {k : Nat} (hk : k < w.heap.size) (hne : some k ≠ row) : w4.heap[k]? = w.heap[k]? := by
  rw [hg.block k (by simp; omega) hne, Below.heap_alloc _ _ _ (by simp; omega), Below.heap_alloc _ _ _ hk]
theorem app_grown {w w2 w4 : World} {o1 o2 : Obj} {b base : Nat} {e : TypeId} {size : Nat} {v : Value} {n : Nat} {xs : List Value} (h : w.grownBy w2 (some b)) (ho : w2.ownsRow base e size v n xs) (hb : w.heap.size ≤ base) (hg : ((w2.alloc o1).alloc o2).grownBy w4 v.ownBlock) : w.grownBy w4 (some b) :=
  fr_own (fr_both (fr_both h (fr_alloc _ _ _)) (fr_alloc _ _ _)) ((ho.alloc _).alloc _) hb hg
theorem own_ne {w : World} {base : Nat} {e : TypeId} {size : Nat} {v : Value} {n : Nat} {xs : List Value} (h : w.ownsRow base e size v n xs) {k : Nat} (hk : k < base) : some k ≠ v.ownBlock := fun g => by have := (own_blk h g.symm).1; omega
set_option maxRecDepth 100000 in
set_option maxHeartbeats 4000000 in
theorem ratom_any (b : Nat) (s : ByteArray) (st : RSt) (name : List UInt8) (x : Nat) (w : World) (h : RP w b s st) (hf : Fit s st) (hs : s.size ≤ 1073741824) :
    Calls Tryz.prog 72 #[.pointer (some ⟨b, 0, none⟩), .string (str name), .int .i64 (x : Nat)] w fun en w' => AtomR w.heap.size (atomS s name x st).1 en w' ∧ RP w' b s (atomS s name x st).2 ∧ w.grownBy w' (some b) := by
  obtain ⟨i0, hi0, hz0, hz1, hz2⟩ := info_parts infoTerm
  have HS : Hid (RP w b s st) := h
  have HF : Hid (Fit s st) := hf
  have hbw : b < w.heap.size := RS.lt h
  obtain ⟨NM, HNM⟩ : ∃ NM, Hid (str name = NM) := ⟨_, (rfl : _ = _)⟩
  rw [HNM.out]
  clear h hf
  go_enter Tryz.func72, Tryz.ntmps72
  go_wp2_with fail
  generalize hw0 : World.alloc (World.alloc _ _) _ = w0
  have HZ0 : Hid (w0.heap.size = w.heap.size + 2) := by show _ = _; rw [← hw0]; simp
  have HX0 : Hid (Box w0 w.heap.size [.string { data := #[] }, .slice none 0 0, .int .i64 0]) := by rw [← hw0]; exact (Box.new _ _ _).grown (by simp) (fr_alloc _ _ none) (by simp)
  have HA0 : Hid (Box w0 (w.heap.size + 1) [.string NM, .slice none 0 0, .int .i64 (x : Nat)]) := by
    rw [← hw0]
    exact Box.at _ _ _ _ (by simp)
  have HS0 : Hid (RP w0 b s st) := by rw [← hw0]; exact (HS.out.grown (fr_alloc _ _ none) (by simp)).grown (fr_alloc _ _ none) (by simp)
  have HG0 : Hid (w.grownBy w0 (some b)) := by rw [← hw0]; exact fr_both (fr_alloc _ _ _) (fr_alloc _ _ _)
  clear hw0 HS
  refine (rgot_any b s (str [40]) st _ HS0.out HF.out.1 hs).mono ?_
  rintro en w1 ⟨rfl, HN, HFR⟩
  rw [data_str] at HN ⊢
  have hbX : ¬ b = w.heap.size := by omega
  have hbA : ¬ b = w.heap.size + 1 := by omega
  have HX1 : Hid (Box w1 w.heap.size [.string { data := #[] }, .slice none 0 0, .int .i64 0]) := HX0.out.grown (by simp) HFR.g (by simp; omega)
  have HA1 : Hid (Box w1 (w.heap.size + 1) [.string NM, .slice none 0 0, .int .i64 (x : Nat)]) := HA0.out.grown (by simp) HFR.g (by simp; omega)
  have HG1 : Hid (w.grownBy w1 (some b)) := fr_both HG0.out HFR.g
  have HZ1 : Hid (w1.heap.size = w.heap.size + 2) := by show _ = _; rw [HFR.size]; exact HZ0.out
  have HN1 : Hid (RP w1 b s (gotS s [40] st)) := HN
  clear HN HFR HX0 HA0 HG0 HZ0 HS0
  obtain ⟨B, HB⟩ : ∃ B, Hid (isS [40] st = B) := ⟨_, (rfl : _ = _)⟩
  rw [HB.out]
  cases B with
  | false =>
    have HAT : Hid (atomS s name x st = (⟨name, [], x⟩, st)) := by show _ = _; unfold atomS; rw [HB.out]; rfl
    have HN2 : Hid (RP w1 b s st) := by have := HN1.out; unfold gotS at this; rw [HB.out] at this; exact this
    have x0 := HX1.out.c 0 _ rfl
    have x1 := HX1.out.c 1 _ rfl
    have x2 := HX1.out.c 2 _ rfl
    have y0 := HX1.out.f 0 _ rfl
    have y1 := HX1.out.f 1 _ rfl
    have y2 := HX1.out.f 2 _ rfl
    have z0 := HA1.out.c 0 _ rfl
    have z1 := HA1.out.c 1 _ rfl
    have z2 := HA1.out.c 2 _ rfl
    go_wp2
    refine bodyPost_ret (v := .agg #[.string NM, .slice none 0 0, .int .i64 (x : Nat)]) (by simp [results, Tryz.results72, go_sem, x0, x1, x2]) rfl ⟨?_, ?_, ?_⟩
    · rw [HAT.out]; exact ⟨_, by rw [HNM.out], World.ownsRow_nil _ _ _ _⟩
    · rw [HAT.out]; exact ((HN2.out.other hbX _ _).other hbX _ _).other hbX _ _
    · exact fr_new (fr_new (fr_new HG1.out (Nat.le_refl _) _ _) (Nat.le_refl _) _ _) (Nat.le_refl _) _ _
  | true =>
    have HAT : Hid (atomS s name x st = (⟨name, (argsS s 10 [] (nextS s st)).1, x⟩, mustS s [41] (argsS s 10 [] (nextS s st)).2)) := by show _ = _; unfold atomS; rw [if_pos HB.out]
    have HN2 : Hid (RP w1 b s (nextS s st)) := by have := HN1.out; unfold gotS at this; rw [if_pos HB.out] at this; exact this
    have HF2 : Hid (Fit s (nextS s st)) := nextS_fit s st HF.out.1
    clear HN1
    go_wp2_with fail
    go_loopw [8, 9] (fun m t wr => ∃ (mb : Bool) (args : List PTerm) (q : RSt) (v : Value), m = .bool mb ∧ args.length ≤ 9 ∧ Hid (mb = true → q.e = 0 → args.length ≤ 8) ∧ Hid (RP wr b s q) ∧ Hid (Fit s q) ∧ Hid (Box wr w.heap.size [.string { data := #[] }, .slice none 0 0, .int .i64 0]) ∧ Hid (Box wr (w.heap.size + 1) [.string NM, v, .int .i64 (x : Nat)]) ∧ Hid (wr.ownsRow (w.heap.size + 2) 45 3 v args.length (termsV args)) ∧ Hid (w.grownBy wr (some b)) ∧ Hid (argsS s 10 [] (nextS s st) = if mb then argsS s (10 - args.length) args q else (args, q))) (fun _ _ wr => 10 - lenAt wr (w.heap.size + 1) 1)
    case atStart => exact ⟨true, [], nextS s st, .slice none 0 0, rfl, by simp, fun _ _ => by simp, HN2, HF2, HX1, HA1, World.ownsRow_nil _ _ _ _, HG1, (rfl : _ = _)⟩
    case round =>
      obtain ⟨mb, args, q, v, rfl, hal, HLE, HR, HFQ, HX, HA, HO, HG, HARG⟩ := hrel
      obtain ⟨va, vc, rfl⟩ := own_form HO.out
      clear HX1 HA1 HN2 HF2 HG1
      obtain ⟨c0, c1, c2, c3, c4, c5, c6, f1, f2, f3, f4, f5, f6⟩ := HR.out
      have HLN : Hid (lenAt wr (w.heap.size + 1) 1 = args.length) := lenAt_is (HA.out.c 1 _ rfl)
      have hex : (mb = true ∧ ((q.e : Int) == 0) = true ∧ args.length ≤ 8 ∧ Hid (q.e = 0)) ∨ ((mb = false ∨ (mb = true ∧ ((q.e : Int) == 0) = false)) ∧ Hid (argsS s 10 [] (nextS s st) = (args, q))) := by
        cases mb with
        | false => exact Or.inr ⟨Or.inl rfl, HARG.out⟩
        | true =>
          by_cases he : q.e = 0
          · exact Or.inl ⟨rfl, by simp [he], HLE.out rfl he, he⟩
          · refine Or.inr ⟨Or.inr ⟨rfl, by rw [beq_eq_false_iff_ne]; omega⟩, ?_⟩
            have := HARG.out
            rw [if_pos rfl, argsS_dead s _ _ he] at this
            exact this
      rcases hex with ⟨rfl, he, hl8, HE0⟩ | ⟨hex, HEND⟩
      · have HSTEP : Hid (argsS s 10 [] (nextS s st) = argsS s (9 - args.length + 1) args q) := by
          have := HARG.out
          rw [if_pos rfl] at this
          show _ = _
          rw [this, show 10 - args.length = 9 - args.length + 1 from by omega]
        clear HARG HLE
        have z1 := HA.out.c 1 _ rfl
        have hT := argsS_step s (9 - args.length) args HE0.out
        have HFM : Hid (Fit s (if 8 ≤ args.length then manyS false q else q)) := by
          show Fit _ _
          split
          · exact manyS_fit s _ HFQ.out
          · exact HFQ.out
        have HST8 : Hid (8 ≤ args.length → isS [44] (termS s (if 8 ≤ args.length then manyS false q else q)).2 = false) := by
          intro h8; rw [if_pos h8]; exact many_stops s q HFQ.out _
        have HSTEP2 := hide (HSTEP.out.trans hT)
        clear hT HSTEP
        go_upto_if 28 with fail
        go_cut [] (fun wc => Hid (RP wc b s (if 8 ≤ args.length then manyS false q else q)) ∧ Hid (RFx wr wc b))
        case first =>
          by_cases h8 : 8 ≤ args.length
          · go_wp2_with fail
            refine (rmany_any b s q false _ HR.out).mono ?_
            rintro en w2 ⟨rfl, HN, HFR⟩
            have HN2 : Hid (RP w2 b s (if 8 ≤ args.length then manyS false q else q)) := by rw [if_pos h8]; exact HN
            have HF2 : Hid (RFx wr w2 b) := HFR
            clear HN HFR
            go_wp2_with fail
            go_meet
            case rel => exact ⟨HN2, HF2⟩
          · have h8' : args.length < 8 := by omega
            have HN2 : Hid (RP wr b s (if 8 ≤ args.length then manyS false q else q)) := by rw [if_neg h8]; exact HR.out
            clear h8
            go_wp2_with fail
            go_meet
            case rel => exact ⟨HN2, RFx.refl _ _⟩
        case rest =>
          obtain ⟨HRc, HFc⟩ := hcut
          obtain ⟨q1, HQ1⟩ : ∃ q1, Hid ((if 8 ≤ args.length then manyS false q else q) = q1) := ⟨_, (rfl : _ = _)⟩
          rw [HQ1.out] at HRc HFM HST8 HSTEP2
          have HXc : Hid (Box wc w.heap.size [.string { data := #[] }, .slice none 0 0, .int .i64 0]) := HX.out.grown (by simp) HFc.out.g (by simp; omega)
          have HAc : Hid (Box wc (w.heap.size + 1) [.string NM, .slice va args.length vc, .int .i64 (x : Nat)]) := HA.out.grown (by simp) HFc.out.g (by simp; omega)
          have HOc : Hid (wc.ownsRow (w.heap.size + 2) 45 3 (.slice va args.length vc) args.length (termsV args)) := own_far HO.out HFc.out.g (fun g hg => by have := (own_blk HO.out hg).1; simp; omega)
          have HGc : Hid (w.grownBy wc (some b)) := fr_both HG.out HFc.out.g
          clear HX HA HO HG HR HFQ HFc z1 c0 c1 c2 c3 c4 c5 c6 f1 f2 f3 f4 f5 f6
          go_wp2_with fail
          refine (rterm_any b s q1 _ HRc.out HFM.out hs).mono ?_
          rintro en w2 ⟨rfl, HN, HFR⟩
          have HX2 : Hid (Box w2 w.heap.size [.string { data := #[] }, .slice none 0 0, .int .i64 0]) := HXc.out.grown (by simp) HFR (by simp; omega)
          have HA2 : Hid (Box w2 (w.heap.size + 1) [.string NM, .slice va args.length vc, .int .i64 (x : Nat)]) := HAc.out.grown (by simp) HFR (by simp; omega)
          have HO2 : Hid (w2.ownsRow (w.heap.size + 2) 45 3 (.slice va args.length vc) args.length (termsV args)) := own_far HOc.out HFR (fun g hg => by have := (own_blk HOc.out hg).1; simp; omega)
          have HG2 : Hid (w.grownBy w2 (some b)) := fr_both HGc.out HFR
          have HFT : Hid (Fit s (termS s q1).2) := termS_fit s q1 HFM.out
          obtain ⟨tq, HTQ⟩ : ∃ tq, Hid (termS s q1 = tq) := ⟨_, (rfl : _ = _)⟩
          rw [HTQ.out] at HN HFT HST8 HSTEP2 ⊢
          obtain ⟨t1, q2⟩ := tq
          have HN2 : Hid (RP w2 b s q2) := HN
          clear HN HFR HXc HAc HOc HGc HRc HFM
          obtain ⟨tt, HTT⟩ : ∃ tt, Hid (str t1.text = tt) := ⟨_, (rfl : _ = _)⟩
          have HTV : Hid (termV t1 = [.bool t1.isVar, .string tt, .int .i64 (t1.place : Nat)]) := by show _ = _; unfold termV; rw [HTT.out]
          simp only [] at HST8 HSTEP2
          rw [show (termV (t1, q2).1).toArray = #[.bool t1.isVar, .string tt, .int .i64 (t1.place : Nat)] from by show (termV t1).toArray = _; rw [HTV.out]]
          have z1 := HA2.out.c 1 _ rfl
          have hwl : w.heap.size + 1 < w2.heap.size := HA2.out.lt (by simp)
          go_wp2_with (at_builtin; refine wpList_append_own _ rfl _ _ 38 rfl (w.heap.size + 2) 45 i0 (.agg #[.bool false, .string { data := #[] }, .int .i64 0]) 3 32 Tryz.underlying38 hi0 hz0 hz1 hz2 rfl (by decide) _ _ _ rfl ((HO2.out.alloc _).alloc _) ⟨w2.heap.size + 1, 0, none⟩ 1 1 [.bool t1.isVar, .string tt, .int .i64 (t1.place : Nat)] rfl rfl ?c1 ?c2 ?c3 ?c4 ?c5 ?_)
          case c1 =>
            intro j' u hj'
            match j', hj' with
            | 0, hj' => simp at hj'; subst hj'; exact World.cell?_alloc_at _ _ _ _ (by simp)
            | 1, hj' => simp at hj'; subst hj'; exact World.cell?_alloc_at _ _ _ _ (by simp)
            | 2, hj' => simp at hj'; subst hj'; exact World.cell?_alloc_at _ _ _ _ (by simp)
          case c2 => intro u hu; simp at hu; rcases hu with rfl | rfl | rfl <;> rfl
          case c3 => unfold maxLen; omega
          case c4 => omega
          case c5 => simp; omega
          intro v4 w4 hown4 hg4 _
          obtain ⟨a4, p4, rfl⟩ := own_form hown4
          have HX4 : Hid (Box w4 w.heap.size [.string { data := #[] }, .slice none 0 0, .int .i64 0]) := HX2.out.far (app_block hg4 (by omega) (own_ne HO2.out (by omega)))
          have HA4 : Hid (Box w4 (w.heap.size + 1) [.string NM, .slice va args.length vc, .int .i64 (x : Nat)]) := HA2.out.far (app_block hg4 (by omega) (own_ne HO2.out (by omega)))
          have HN4 : Hid (RP w4 b s q2) := RS.far HN2.out (app_block hg4 (by omega) (own_ne HO2.out (by omega)))
          have HG4 : Hid (w.grownBy w4 (some b)) := app_grown HG2.out HO2.out (by omega) hg4
          have HO4 : Hid (w4.ownsRow (w.heap.size + 2) 45 3 (.slice a4 (args.length + 1) p4) (args ++ [t1]).length (termsV (args ++ [t1]))) := by
            rw [← termsV_snoc, HTV.out, List.length_append]; exact hown4
          clear hown4 hg4 HX2 HA2 HN2 HG2 HO2 z1
          have z1 := HA4.out.c 1 _ rfl
          have zf := HA4.out.f 1 _ rfl
          go_wp2_with fail
          generalize hw5 : World.setCell _ _ _ = w5
          have HX5 : Hid (Box w5 w.heap.size [.string { data := #[] }, .slice none 0 0, .int .i64 0]) := by rw [← hw5]; exact HX4.out.grown (by simp) (fr_set _ _ _ _) (by simp)
          have HA5 : Hid (Box w5 (w.heap.size + 1) [.string NM, .slice a4 (args.length + 1) p4, .int .i64 (x : Nat)]) := by rw [← hw5]; exact HA4.out.set 1 _ _ rfl
          have HN5 : Hid (RP w5 b s q2) := by rw [← hw5]; exact HN4.out.other hbA _ _
          have HG5 : Hid (w.grownBy w5 (some b)) := by rw [← hw5]; exact fr_new HG4.out (by omega) _ _
          have HO5 : Hid (w5.ownsRow (w.heap.size + 2) 45 3 (.slice a4 (args.length + 1) p4) (args ++ [t1]).length (termsV (args ++ [t1]))) := by
            rw [← hw5]; exact own_far HO4.out (fr_set _ _ _ _) (fun g hg => by have := (own_blk HO4.out hg).1; simp; omega)
          clear hw5 HX4 HA4 HN4 HG4 HO4 z1 zf
          refine (rgot_any b s (str [44]) q2 _ HN5.out HFT.out.1 hs).mono ?_
          rintro en w6 ⟨rfl, HN, HFR⟩
          rw [data_str] at HN ⊢
          have HX6 : Hid (Box w6 w.heap.size [.string { data := #[] }, .slice none 0 0, .int .i64 0]) := HX5.out.grown (by simp) HFR.g (by simp; omega)
          have HA6 : Hid (Box w6 (w.heap.size + 1) [.string NM, .slice a4 (args.length + 1) p4, .int .i64 (x : Nat)]) := HA5.out.grown (by simp) HFR.g (by simp; omega)
          have HG6 : Hid (w.grownBy w6 (some b)) := fr_both HG5.out HFR.g
          have HO6 : Hid (w6.ownsRow (w.heap.size + 2) 45 3 (.slice a4 (args.length + 1) p4) (args ++ [t1]).length (termsV (args ++ [t1]))) := own_far HO5.out HFR.g (fun g hg => by have := (own_blk HO5.out hg).1; simp; omega)
          have HN6 : Hid (RP w6 b s (gotS s [44] q2)) := HN
          have HF6 : Hid (Fit s (gotS s [44] q2)) := by
            show Fit _ _
            unfold gotS; split
            · exact nextS_fit s q2 HFT.out.1
            · exact HFT.out
          have HL6 : Hid (isS [44] q2 = true → (gotS s [44] q2).e = 0 → (args ++ [t1]).length ≤ 8) := by
            intro h1 _
            rw [List.length_append]
            by_cases h8 : 8 ≤ args.length
            · rw [HST8.out h8] at h1; cases h1
            · simp; omega
          have HE6 : Hid (argsS s 10 [] (nextS s st) = if isS [44] q2 then argsS s (10 - (args ++ [t1]).length) (args ++ [t1]) (gotS s [44] q2) else (args ++ [t1], gotS s [44] q2)) := by
            show _ = _
            rw [HSTEP2.out]
            unfold gotS
            rw [List.length_append, show 10 - (args.length + [t1].length) = 9 - args.length from by simp]
            cases isS [44] q2 <;> rfl
          clear HN HFR HX5 HA5 HG5 HO5 HN5
          have HLN6 : Hid (lenAt w6 (w.heap.size + 1) 1 = args.length + 1) := lenAt_is (HA6.out.c 1 _ rfl)
          go_wp2_with fail
          go_roundw
          case rel => exact ⟨isS [44] q2, args ++ [t1], gotS s [44] q2, .slice a4 (args.length + 1) p4, rfl, by simp; omega, HL6, HN6, HF6, HX6, HA6, HO6, HG6, HE6⟩
          case measure => rw [HLN6.out, HLN.out]; omega
      · have HA' : Hid (atomS s name x st = (⟨name, args, x⟩, mustS s [41] q)) := by show _ = _; rw [HAT.out, HEND.out]
        have x0 := HX.out.c 0 _ rfl
        clear HARG HLE HAT
        rcases hex with rfl | ⟨rfl, he⟩
        all_goals
          go_wp2_with fail
          refine (rmust_any b s (str [41]) q _ HR.out HFQ.out.1 hs).mono ?_
          rintro en w5 ⟨rfl, HN, HFR⟩
          rw [data_str] at HN
          have HX5 : Hid (Box w5 w.heap.size [.string { data := #[] }, .slice none 0 0, .int .i64 0]) := HX.out.grown (by simp) HFR.g (by simp; omega)
          have HA5 : Hid (Box w5 (w.heap.size + 1) [.string NM, .slice va args.length vc, .int .i64 (x : Nat)]) := HA.out.grown (by simp) HFR.g (by simp; omega)
          have HG5 : Hid (w.grownBy w5 (some b)) := fr_both HG.out HFR.g
          have HO5 : Hid (w5.ownsRow (w.heap.size + 2) 45 3 (.slice va args.length vc) args.length (termsV args)) := own_far HO.out HFR.g (fun g hg => by have := (own_blk HO.out hg).1; simp; omega)
          have HN5 : Hid (RP w5 b s (mustS s [41] q)) := HN
          clear HN HFR c0 c1 c2 c3 c4 c5 c6 f1 f2 f3 f4 f5 f6 x0
          have x0 := HX5.out.c 0 _ rfl
          have x1 := HX5.out.c 1 _ rfl
          have x2 := HX5.out.c 2 _ rfl
          have y0 := HX5.out.f 0 _ rfl
          have y1 := HX5.out.f 1 _ rfl
          have y2 := HX5.out.f 2 _ rfl
          have z0 := HA5.out.c 0 _ rfl
          have z1 := HA5.out.c 1 _ rfl
          have z2 := HA5.out.c 2 _ rfl
          go_wp2
          refine bodyPost_ret (v := .agg #[.string NM, .slice va args.length vc, .int .i64 (x : Nat)]) (by simp [results, Tryz.results72, go_sem, x0, x1, x2]) rfl ⟨?_, ?_, ?_⟩
          · rw [HA'.out]
            refine ⟨_, by rw [HNM.out], own_lower (own_far (own_far (own_far HO5.out (fr_set _ _ _ _) ?_) (fr_set _ _ _ _) ?_) (fr_set _ _ _ _) ?_) (by omega)⟩
            all_goals (intro g hg; have := (own_blk HO5.out hg).1; simp; omega)
          · rw [HA'.out]; exact ((HN5.out.other hbX _ _).other hbX _ _).other hbX _ _
          · exact fr_new (fr_new (fr_new HG5.out (Nat.le_refl _) _ _) (Nat.le_refl _) _ _) (Nat.le_refl _) _ _
end Go.Proofs.YtgllfcoafgphbaaGreatDoor
