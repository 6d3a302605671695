import Derived.Test.YtoelacloghkooaaGreatDoorM06
import Derived.Deep.DeepCutAuto
/-
  The document's Reader: term, many.
-/
namespace Go.Proofs.YtoelacloghkooaaGreatDoor
open Go.ChangeShapes Go.WideShapes Go.ChangeAt Go.RowKit
set_option linter.unusedVariables false
/-- cells that lie in a block of one's own -/
structure Box (w : World) (g : Nat) (vs : List Value) : Prop where
  c : ∀ (j : Nat) (v : Value), vs[j]? = some v → w.cell? ⟨g, j, none⟩ = some v
  f : ∀ (j : Nat) (v : Value), vs[j]? = some v → w.frozen? ⟨g, j, none⟩ = false
theorem Box.lt {w : World} {g : Nat} {vs : List Value} (h : Box w g vs) (h0 : 0 < vs.length) : g < w.heap.size := by
  rcases Nat.lt_or_ge g w.heap.size with h1 | h1
  · exact h1
  · have := h.c 0 vs[0] (List.getElem?_eq_getElem h0)
    simp [World.cell?, Array.getElem?_eq_none h1] at this
theorem Box.far {w w' : World} {g : Nat} {vs : List Value} (h : Box w g vs) (hb : w'.heap[g]? = w.heap[g]?) : Box w' g vs :=
  ⟨fun j v hj => (World.cell?_of_block hb).trans (h.c j v hj), fun j v hj => (World.frozen?_of_block hb).trans (h.f j v hj)⟩
theorem Box.grown {w w' : World} {g : Nat} {vs : List Value} {row : Option Nat} (h : Box w g vs) (h0 : 0 < vs.length) (hg : w.grownBy w' row) (hne : some g ≠ row) : Box w' g vs := h.far (hg.block g (h.lt h0) hne)
theorem RP.grown {w w' : World} {b : Nat} {s : ByteArray} {st : RSt} {row : Option Nat} (h : RP w b s st) (hg : w.grownBy w' row) (hne : some b ≠ row) : RP w' b s st := RS.far h (hg.block b (RS.lt h) hne)
theorem RP.other {w : World} {b : Nat} {s : ByteArray} {st : RSt} (h : RP w b s st) {R : Nat} (hne : ¬ b = R) (j : Nat) (u : Value) : RP (w.setCell ⟨R, j, none⟩ u) b s st := h.grown (fr_set w R j u) (fun e => hne (by cases e; rfl))
theorem Box.new (w : World) (cs : List Value) (t : TypeId) : Box (w.alloc (.cells cs.toArray t)) w.heap.size cs := by
  have hn := heap_alloc_new w (.cells cs.toArray t)
  constructor
  · intro j v hj
    simp only [World.cell?, hn]
    simpa using hj
  · intro j v hj
    simp only [World.frozen?, hn]
    simp
/-- a term as a value -/
def termV (t : PTerm) : List Value := [.bool t.isVar, .string (str t.text), .int .i64 (t.place : Nat)]
/-- a state in which the reader may be asked for a term -/
def Fit (s : ByteArray) (st : RSt) : Prop := st.i ≤ s.size ∧ (isS [34] st = true → st.i < s.size) ∧ (st.e = 0 → st.kd ≠ 6)
theorem sgn_fit (s : ByteArray) (p : Nat) (h : p ≤ s.size) (st : RSt) (hi : st.i = (sgn s p).i) (hk : st.kd = (sgn s p).kd) (ht : st.tx = (sgn s p).tx) : Fit s st := by
  refine ⟨by rw [hi]; exact sgn_i s p h, fun g => ?_, fun _ => by rw [hk]; exact (kd_is s p).2.2.2.2⟩
  have g2 : isS [34] (sgn s p) = true := by
    unfold isS at g ⊢
    rw [hk, ht] at g
    simp only [Bool.and_eq_true, decide_eq_true_eq] at g
    simp [g.1.2, g.2]
  rw [is34, starts_one] at g2
  obtain ⟨hlt, hc⟩ := of_decide_eq_true g2
  rw [hi]
  rcases sgn_cases s p with ⟨_, e, _⟩ | ⟨_, g, _, e⟩ | ⟨_, _, e, _⟩
  · omega
  · rw [hc] at g; exact absurd g (by decide)
  · rw [e, hc]; exact hlt
theorem nextS_fit (s : ByteArray) (st : RSt) (h : st.i ≤ s.size) : Fit s (nextS s st) := by
  by_cases he : st.e = 0
  · have hn : nextS s st = { sgn s (skipTo s.data.toList st.i) with x := st.x } := by unfold nextS; rw [if_pos he]
    rw [hn]
    exact sgn_fit s _ (skip_le s _ h) _ rfl rfl rfl
  · have := (nextS_same s st).1
    refine ⟨nextS_i s st h, fun g => ?_, fun g => absurd (this.symm.trans g) he⟩
    rw [isS_dead (by rw [this]; exact he)] at g; cases g
theorem fit_dead (s : ByteArray) {st : RSt} (h : st.i ≤ s.size) (he : st.e ≠ 0) : Fit s st := ⟨h, fun g => (by rw [isS_dead he] at g; cases g), fun g => absurd g he⟩
theorem failS_fit (s : ByteArray) {st : RSt} (e x : Nat) (h : Fit s st) (he : e ≠ 0) : Fit s (failS e x st) := by
  unfold failS; split
  · exact fit_dead s (st := { st with e := e, x := x }) h.1 he
  · exact h
theorem strGo_le (l : List UInt8) : ∀ (n p : Nat) (acc : List UInt8), l.length ≤ n → (∀ e x, strGo l p acc = .error (e, x) → x ≤ p + l.length) ∧ (∀ o q, strGo l p acc = .ok (o, q) → q ≤ p + l.length) := by
  intro n
  induction n generalizing l with
  | zero =>
    intro p acc hl
    cases l with
    | nil => exact ⟨fun e x h => (by rw [strGo] at h; cases h; simp), fun o q h => by rw [strGo] at h; cases h⟩
    | cons c t => simp at hl
  | succ n ih =>
    intro p acc hl
    cases l with
    | nil => exact ⟨fun e x h => (by rw [strGo] at h; cases h; simp), fun o q h => by rw [strGo] at h; cases h⟩
    | cons c t =>
      simp at hl
      rw [strGo.eq_def]
      simp only [List.length_cons]
      split
      · exact ⟨fun e x h => (by cases h), fun o q h => by cases h; omega⟩
      · split
        · exact ⟨fun e x h => (by cases h; omega), fun o q h => by cases h⟩
        · split
          · cases t with
            | nil => exact ⟨fun e x h => (by cases h; simp), fun o q h => by cases h⟩
            | cons d t2 =>
              simp at hl
              simp only [List.length_cons]
              split
              · have := ih t2 (p + 2) (acc ++ [10]) (by omega)
                exact ⟨fun e x h => (by have := this.1 e x h; omega), fun o q h => by have := this.2 o q h; omega⟩
              · split
                · have := ih t2 (p + 2) (acc ++ [d]) (by omega)
                  exact ⟨fun e x h => (by have := this.1 e x h; omega), fun o q h => by have := this.2 o q h; omega⟩
                · exact ⟨fun e x h => (by cases h; omega), fun o q h => by cases h⟩
          · have := ih t (p + 1) (acc ++ [c]) hl
            exact ⟨fun e x h => (by have := this.1 e x h; omega), fun o q h => by have := this.2 o q h; omega⟩
theorem textS_i (s : ByteArray) (st : RSt) (h : st.i < s.size) : (textS s st).i ≤ s.size := by
  have hl : (s.data.toList.drop (st.i + 1)).length = s.size - (st.i + 1) := by simp
  have := strGo_le (s.data.toList.drop (st.i + 1)) _ (st.i + 1) [] (Nat.le_refl _)
  unfold textS
  cases hg : strGo (s.data.toList.drop (st.i + 1)) (st.i + 1) [] with
  | error er => obtain ⟨e, x⟩ := er; have := this.1 e x hg; simp only []; omega
  | ok r => obtain ⟨o, q⟩ := r; have := this.2 o q hg; simp only []; omega
theorem quotS_i (s : ByteArray) (st : RSt) (h : Fit s st) : (quotS s st).i ≤ s.size := by
  unfold quotS
  split
  · rename_i hq
    have := textS_i s st (h.2.1 hq)
    split
    · exact failS_i _ _ _ _ this
    · exact this
  · exact h.1
theorem checkS_i (s : ByteArray) (st : RSt) (h : st.i ≤ s.size) : (checkS st).i ≤ s.size := by
  unfold checkS; split
  · exact h
  · exact failS_i _ _ _ _ h
theorem termS_fit (s : ByteArray) (st : RSt) (h : Fit s st) : Fit s (termS s st).2 := by
  have h1 := checkS_i s _ (quotS_i s st h)
  unfold termS; split
  · exact nextS_fit s _ h1
  · exact fit_dead s h1 (by assumption)
theorem rtextS_any (b : Nat) (s : ByteArray) (st : RSt) (w : World) (h : RP w b s st) (he : st.e = 0) (hi : st.i < s.size) (hs : s.size ≤ 1073741824) :
    Calls Tryz.prog 95 #[.pointer (some ⟨b, 0, none⟩)] w fun en w' => en = .returned (.tuple #[]) ∧ RP w' b s (textS s st) ∧ w.grownBy w' (some b) := by
  obtain ⟨i, kd, tx, a, e, x⟩ := st
  simp only [] at he hi
  subst he
  exact rtext_any b s i kd tx a x w h hi hs
theorem isS_e {sg : List UInt8} {st : RSt} (h : isS sg st = true) : st.e = 0 := by
  unfold isS at h; simp only [Bool.and_eq_true, decide_eq_true_eq] at h; exact h.1.1
theorem termS_ok {s : ByteArray} {st q : RSt} (h : quotS s st = q) (hk : termKind q.kd = true) (he : q.e = 0) : termS s st = (⟨decide (q.kd = 2), q.tx.data.toList, q.a⟩, nextS s q) := by
  have hc : checkS q = q := by unfold checkS; rw [hk]; rfl
  unfold termS; rw [h, hc, if_pos he]
theorem termS_bad {s : ByteArray} {st q : RSt} (h : quotS s st = q) (hk : termKind q.kd = true) (he : q.e ≠ 0) : termS s st = (noTerm, q) := by
  have hc : checkS q = q := by unfold checkS; rw [hk]; rfl
  unfold termS; rw [h, hc, if_neg he]
theorem termS_no {s : ByteArray} {st q : RSt} (h : quotS s st = q) (hk : termKind q.kd = false) : termS s st = (noTerm, failS 2 q.a q) := by
  have hc : checkS q = failS 2 q.a q := by unfold checkS; rw [hk]; rfl
  have he : ¬ (failS 2 q.a q).e = 0 := by
    unfold failS; split
    · simp
    · assumption
  unfold termS; rw [h, hc, if_neg he]
set_option maxRecDepth 100000 in
set_option maxHeartbeats 4000000 in
theorem rterm_any (b : Nat) (s : ByteArray) (st : RSt) (w : World) (h : RP w b s st) (hf : Fit s st) (hs : s.size ≤ 1073741824) :
    Calls Tryz.prog 74 #[.pointer (some ⟨b, 0, none⟩)] w fun en w' => en = .returned (.agg (termV (termS s st).1).toArray) ∧ RP w' b s (termS s st).2 ∧ w.grownBy w' (some b) := by
  have HS : Hid (RP w b s st) := h
  have HF : Hid (Fit s st) := hf
  have hbw : b < w.heap.size := RS.lt h
  clear h hf
  go_enter Tryz.func74, Tryz.ntmps74
  go_wp2_with fail
  generalize hw0 : World.alloc _ _ = w0
  have HX0 : Hid (Box w0 w.heap.size [.bool false, .string { data := #[] }, .int .i64 0]) := by rw [← hw0]; exact Box.new _ _ _
  have HS0 : Hid (RP w0 b s st) := by rw [← hw0]; exact HS.out.grown (fr_alloc _ _ none) (by simp)
  have HG0 : Hid (w.grownBy w0 (some b)) := by rw [← hw0]; exact fr_alloc _ _ _
  clear hw0
  refine (ris_any b s (str [34]) st _ HS0.out).mono ?_
  rintro en w1 ⟨rfl, rfl⟩
  rw [data_str]
  obtain ⟨B, HB⟩ : ∃ B, Hid (isS [34] st = B) := ⟨_, (rfl : _ = _)⟩
  rw [HB.out]
  go_upto_if 5 with fail
  go_cut [] (fun wc => Hid (RP wc b s (quotS s st)) ∧ Hid (w.grownBy wc (some b)) ∧ Hid (Box wc w.heap.size [.bool false, .string { data := #[] }, .int .i64 0]))
  case first =>
    cases B with
    | false =>
      have HQ : Hid (quotS s st = st) := by show _ = _; unfold quotS; rw [HB.out]; rfl
      go_wp2_with fail
      go_meet
      case rel => exact ⟨by rw [HQ.out]; exact HS0, HG0, HX0⟩
    | true =>
      have HE0 : Hid (st.e = 0) := isS_e HB.out
      go_wp2_with fail
      refine (rtextS_any b s st _ HS0.out HE0.out (HF.out.2.1 HB.out) hs).mono ?_
      rintro en w2 ⟨rfl, HN, HFR⟩
      have HX2 : Hid (Box w2 w.heap.size [.bool false, .string { data := #[] }, .int .i64 0]) := HX0.out.grown (by simp) HFR (by simp; omega)
      have HG2 : Hid (w.grownBy w2 (some b)) := fr_both HG0.out HFR
      have HQ : Hid (quotS s st = if (textS s st).e = 0 ∧ 200 < (textS s st).tx.size then failS 1 (textS s st).a (textS s st) else textS s st) := by show _ = _; unfold quotS; rw [if_pos HB.out]
      obtain ⟨t, HT⟩ : ∃ t, Hid (textS s st = t) := ⟨_, (rfl : _ = _)⟩
      rw [HT.out] at HN HQ
      have HN2 : Hid (RP w2 b s t) := HN
      clear HN HFR
      obtain ⟨c0, c1, c2, c3, c4, c5, c6, f1, f2, f3, f4, f5, f6⟩ := HN2.out
      by_cases he : t.e = 0
      · have hb1 : ((t.e : Int) == 0) = true := by simp [he]
        by_cases hl : 200 < t.tx.size
        · have HQ2 : Hid (quotS s st = failS 1 t.a t) := by show _ = _; rw [HQ.out, if_pos ⟨he, hl⟩]
          clear he
          go_wp2_with fail
          refine (rfailS_any b s t 1 t.a _ HN2.out).mono ?_
          rintro en w3 ⟨rfl, HN, HFR⟩
          have HR : Hid (RP w3 b s (quotS s st)) := by rw [HQ2.out]; exact HN
          have HG3 : Hid (w.grownBy w3 (some b)) := fr_both HG2.out HFR.g
          have HX3 : Hid (Box w3 w.heap.size [.bool false, .string { data := #[] }, .int .i64 0]) := HX2.out.grown (by simp) HFR.g (by simp; omega)
          clear HN HFR
          go_wp2_with fail
          go_meet
          case rel => exact ⟨HR, HG3, HX3⟩
        · have HQ2 : Hid (quotS s st = t) := by show _ = _; rw [HQ.out, if_neg (fun g => hl g.2)]
          have hl2 : t.tx.size ≤ 200 := by omega
          clear he hl
          go_wp2_with fail
          go_meet
          case rel => exact ⟨by rw [HQ2.out]; exact HN2, HG2, HX2⟩
      · have hb1 : ((t.e : Int) == 0) = false := by rw [beq_eq_false_iff_ne]; omega
        have HQ2 : Hid (quotS s st = t) := by show _ = _; rw [HQ.out, if_neg (fun g => he g.1)]
        clear he
        go_wp2_with fail
        go_meet
        case rel => exact ⟨by rw [HQ2.out]; exact HN2, HG2, HX2⟩
  case rest =>
    obtain ⟨HR, HG, HX⟩ := hcut
    have HQI : Hid ((quotS s st).i ≤ s.size) := quotS_i s st HF.out
    obtain ⟨q, HQ⟩ : ∃ q, Hid (quotS s st = q) := ⟨_, (rfl : _ = _)⟩
    rw [HQ.out] at HR HQI
    clear HS0 HG0 HX0 HS HF HB
    obtain ⟨c0, c1, c2, c3, c4, c5, c6, f1, f2, f3, f4, f5, f6⟩ := HR.out
    have x0 := HX.out.c 0 _ rfl
    have x1 := HX.out.c 1 _ rfl
    have x2 := HX.out.c 2 _ rfl
    have y0 := HX.out.f 0 _ rfl
    have y1 := HX.out.f 1 _ rfl
    have y2 := HX.out.f 2 _ rfl
    have hwc : w.heap.size < wc.heap.size := HX.out.lt (by simp)
    have hbc : b < wc.heap.size := by omega
    have hxb : ¬ b = w.heap.size := by omega
    go_upto_region 6 with fail
    generalize hw4 : World.alloc _ _ = w4
    have HX4 : Hid (Box w4 w.heap.size [.bool false, .string { data := #[] }, .int .i64 0]) := by rw [← hw4]; exact HX.out.grown (by simp) (fr_alloc _ _ none) (by simp)
    have HY4 : Hid (Box w4 wc.heap.size [.int .i64 (q.kd : Nat), .string q.tx, .int .i64 (q.a : Nat)]) := by rw [← hw4]; exact Box.new _ _ _
    have HR4 : Hid (RP w4 b s q) := by rw [← hw4]; exact HR.out.grown (fr_alloc _ _ none) (by simp)
    have HG4 : Hid (w.grownBy w4 (some b)) := by rw [← hw4]; exact fr_both HG.out (fr_alloc _ _ _)
    clear hw4 x0 x1 x2 y0 y1 y2 c0 c1 c2 c3 c4 c5 c6 f1 f2 f3 f4 f5 f6 HX HR HG
    obtain ⟨c0, c1, c2, c3, c4, c5, c6, f1, f2, f3, f4, f5, f6⟩ := HR4.out
    have x0 := HX4.out.c 0 _ rfl
    have x1 := HX4.out.c 1 _ rfl
    have x2 := HX4.out.c 2 _ rfl
    have y0 := HX4.out.f 0 _ rfl
    have y1 := HX4.out.f 1 _ rfl
    have y2 := HX4.out.f 2 _ rfl
    have z0 := HY4.out.c 0 _ rfl
    have z1 := HY4.out.c 1 _ rfl
    have z2 := HY4.out.c 2 _ rfl
    have hcase : (((q.kd : Int) != 1) = false ∨ (((q.kd : Int) != 1) = true ∧ ((q.kd : Int) != 2) = false) ∨ (((q.kd : Int) != 1) = true ∧ ((q.kd : Int) != 2) = true ∧ ((q.kd : Int) != 3) = false) ∨ (((q.kd : Int) != 1) = true ∧ ((q.kd : Int) != 2) = true ∧ ((q.kd : Int) != 3) = true ∧ ((q.kd : Int) != 6) = false)) ∧ Hid (termKind q.kd = true) ∨
        (((q.kd : Int) != 1) = true ∧ ((q.kd : Int) != 2) = true ∧ ((q.kd : Int) != 3) = true ∧ ((q.kd : Int) != 6) = true) ∧ Hid (termKind q.kd = false) := by
      have e1 : ∀ n : Nat, ((q.kd : Int) != (n : Nat)) = false ↔ q.kd = n := fun n => by simp [bne]; omega
      have e2 : ∀ n : Nat, ((q.kd : Int) != (n : Nat)) = true ↔ ¬ q.kd = n := fun n => by rw [bne_iff_ne]; omega
      have f1 := e1 1
      have f2 := e1 2
      have f3 := e1 3
      have f6 := e1 6
      have g1 := e2 1
      have g2 := e2 2
      have g3 := e2 3
      have g6 := e2 6
      simp only [Int.cast_ofNat_Int] at f1 f2 f3 f6 g1 g2 g3 g6
      unfold Hid
      by_cases h1 : q.kd = 1
      · left; exact ⟨Or.inl (f1.2 h1), by simp [termKind, h1]⟩
      · by_cases h2 : q.kd = 2
        · left; exact ⟨Or.inr (Or.inl ⟨g1.2 h1, f2.2 h2⟩), by simp [termKind, h2]⟩
        · by_cases h3 : q.kd = 3
          · left; exact ⟨Or.inr (Or.inr (Or.inl ⟨g1.2 h1, g2.2 h2, f3.2 h3⟩)), by simp [termKind, h3]⟩
          · by_cases h6 : q.kd = 6
            · left; exact ⟨Or.inr (Or.inr (Or.inr ⟨g1.2 h1, g2.2 h2, g3.2 h3, f6.2 h6⟩)), by simp [termKind, h6]⟩
            · right; exact ⟨⟨g1.2 h1, g2.2 h2, g3.2 h3, g6.2 h6⟩, by simp [termKind, h1, h2, h3, h6]⟩
    have HNT : Hid (termV noTerm = [.bool false, .string { data := #[] }, .int .i64 0]) := (rfl : _ = _)
    rcases hcase with ⟨hk, HK⟩ | ⟨⟨g1, g2, g3, g6⟩, HK⟩
    · by_cases he : q.e = 0
      · have hb1 : ((q.e : Int) != 0) = false := by simp [he]
        have HT : Hid (termS s st = (⟨decide (q.kd = 2), q.tx.data.toList, q.a⟩, nextS s q)) := termS_ok HQ.out HK.out he
        have HV : Hid (termV ⟨decide (q.kd = 2), q.tx.data.toList, q.a⟩ = [.bool ((q.kd : Int) == 2), .string q.tx, .int .i64 (q.a : Nat)]) := by
          show _ = _
          unfold termV
          rw [str_data]
          have : decide (q.kd = 2) = ((q.kd : Int) == 2) := by rw [Bool.eq_iff_iff]; simp; omega
          simp only [this]
        clear he
        rcases hk with g1 | ⟨g1, g2⟩ | ⟨g1, g2, g3⟩ | ⟨g1, g2, g3, g6⟩
        all_goals
          go_wp2_with fail
          refine (rnext_any b s q _ HR4.out HQI.out hs).mono ?_
          rintro en w5 ⟨rfl, HN, HFR⟩
          have HN5 : Hid (RP w5 b s (nextS s q)) := HN
          have HG5 : Hid (w.grownBy w5 (some b)) := fr_both HG4.out HFR.g
          have HX5 : Hid (Box w5 w.heap.size [.bool false, .string { data := #[] }, .int .i64 0]) := HX4.out.grown (by simp) HFR.g (by simp; omega)
          have HY5 : Hid (Box w5 wc.heap.size [.int .i64 (q.kd : Nat), .string q.tx, .int .i64 (q.a : Nat)]) := HY4.out.grown (by simp) HFR.g (by simp; omega)
          clear HN HFR c0 c1 c2 c3 c4 c5 c6 f1 f2 f3 f4 f5 f6 x0 x1 x2 y0 y1 y2 z0 z1 z2
          have x0 := HX5.out.c 0 _ rfl
          have x1 := HX5.out.c 1 _ rfl
          have x2 := HX5.out.c 2 _ rfl
          have y0 := HX5.out.f 0 _ rfl
          have y1 := HX5.out.f 1 _ rfl
          have y2 := HX5.out.f 2 _ rfl
          have z0 := HY5.out.c 0 _ rfl
          have z1 := HY5.out.c 1 _ rfl
          have z2 := HY5.out.c 2 _ rfl
          go_wp2
          refine bodyPost_ret (v := .agg #[.bool ((q.kd : Int) == 2), .string q.tx, .int .i64 (q.a : Nat)]) (by simp [results, Tryz.results74, go_sem, x0, x1, x2]) rfl ⟨?_, ?_, ?_⟩
          · rw [HT.out, HV.out]
          · rw [HT.out]; exact ((HN5.out.other hxb _ _).other hxb _ _).other hxb _ _
          · exact fr_new (fr_new (fr_new HG5.out (Nat.le_refl _) _ _) (Nat.le_refl _) _ _) (Nat.le_refl _) _ _
      · have hb1 : ((q.e : Int) != 0) = true := by rw [bne_iff_ne]; omega
        have HT : Hid (termS s st = (noTerm, q)) := termS_bad HQ.out HK.out he
        clear he
        rcases hk with g1 | ⟨g1, g2⟩ | ⟨g1, g2, g3⟩ | ⟨g1, g2, g3, g6⟩
        all_goals
          go_wp2
          refine bodyPost_ret (v := .agg #[.bool false, .string { data := #[] }, .int .i64 0]) (by simp [results, Tryz.results74, go_sem, x0, x1, x2]) rfl ⟨?_, ?_, ?_⟩
          · rw [HT.out, HNT.out]
          · rw [HT.out]; exact ((HR4.out.other hxb _ _).other hxb _ _).other hxb _ _
          · exact fr_new (fr_new (fr_new HG4.out (Nat.le_refl _) _ _) (Nat.le_refl _) _ _) (Nat.le_refl _) _ _
    · have HT : Hid (termS s st = (noTerm, failS 2 q.a q)) := termS_no HQ.out HK.out
      go_wp2_with fail
      refine (rfailS_any b s q 2 q.a _ HR4.out).mono ?_
      rintro en w5 ⟨rfl, HN, HFR⟩
      have HN5 : Hid (RP w5 b s (failS 2 q.a q)) := HN
      have HG5 : Hid (w.grownBy w5 (some b)) := fr_both HG4.out HFR.g
      have HX5 : Hid (Box w5 w.heap.size [.bool false, .string { data := #[] }, .int .i64 0]) := HX4.out.grown (by simp) HFR.g (by simp; omega)
      have HE5 : Hid ((((failS 2 q.a q).e : Int) != 0) = true) := by
        show _ = _
        rw [bne_iff_ne]
        unfold failS; split
        · simp
        · rename_i h; omega
      clear HN HFR c0 c1 c2 c3 c4 c5 c6 f1 f2 f3 f4 f5 f6 x0 x1 x2 y0 y1 y2 z0 z1 z2
      obtain ⟨c0, c1, c2, c3, c4, c5, c6, f1, f2, f3, f4, f5, f6⟩ := HN5.out
      have x0 := HX5.out.c 0 _ rfl
      have x1 := HX5.out.c 1 _ rfl
      have x2 := HX5.out.c 2 _ rfl
      have y0 := HX5.out.f 0 _ rfl
      have y1 := HX5.out.f 1 _ rfl
      have y2 := HX5.out.f 2 _ rfl
      have hb1 := HE5.out
      generalize failS 2 q.a q = qq at *
      go_wp2
      refine bodyPost_ret (v := .agg #[.bool false, .string { data := #[] }, .int .i64 0]) (by simp [results, Tryz.results74, go_sem, x0, x1, x2]) rfl ⟨?_, ?_, ?_⟩
      · rw [HT.out, HNT.out]
      · rw [HT.out]; exact ((HN5.out.other hxb _ _).other hxb _ _).other hxb _ _
      · exact fr_new (fr_new (fr_new HG5.out (Nat.le_refl _) _ _) (Nat.le_refl _) _ _) (Nat.le_refl _) _ _
end Go.Proofs.YtoelacloghkooaaGreatDoor
