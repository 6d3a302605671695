import Derived.Test.YtoelacloghkooaaGreatDoorM07
import Derived.Test.YtoelacloghkooaaGreatDoorM08
/-
  strings.NewReplacer at the six texts of the program's Constant, walked.
-/
namespace Go.Proofs.YtoelacloghkooaaGreatDoor
open Go.ChangeShapes Go.WideShapes Go.ChangeAt Go.RowKit
set_option linter.unusedVariables false
theorem grown_cell0 {w w' : World} (hg : w.grownBy w' none) {x : Addr} {v : Value} (h : w.cell? x = some v) : w'.cell? x = some v :=
  (World.cell?_of_block (hg.block x.block (World.block_lt_of_cell? w x h) (by simp))).trans h
theorem infoStr : (Tryz.prog.info? 9).map (fun i => (i.zero, i.size, i.bytes)) = some (some (.string { data := #[] }), 1, 16) := by kernel_rfl
def six : List Value := [.string { data := #[34] }, .string { data := #[92, 34] }, .string { data := #[92] }, .string { data := #[92, 92] }, .string { data := #[10] }, .string { data := #[92, 110] }]
/-- a Replacer that has not built anything yet -/
structure NewRep (w : World) (b : Nat) : Prop where
  kind : ∃ cur fz, w.heap[b]? = some (.cells cur 141 fz)
  box : ∃ g cap, Box w b [.int .u32 0, .int .i32 0, .int .u32 0, .nilIface, .slice (some ⟨g, 0, none⟩) 6 cap] ∧ b ≠ g ∧ ∀ j u, six[j]? = some u → w.cell? ⟨g, j, none⟩ = some u
set_option maxRecDepth 100000 in
set_option maxHeartbeats 2000000 in
theorem newReplacer_any (g : Nat) (w : World) (hg : ∀ j u, six[j]? = some u → w.cell? ⟨g, j, none⟩ = some u) :
    Calls Tryz.prog 33 #[.slice (some ⟨g, 0, none⟩) 6 6] w fun e w' => (∃ b, e = .returned (.pointer (some ⟨b, 0, none⟩)) ∧ w.heap.size ≤ b ∧ b < w'.heap.size ∧ NewRep w' b) ∧ w.grownBy w' none := by
  obtain ⟨i0, hi0, hz0, hz1, hz2⟩ := info_parts infoStr
  have HO : Hid (w.ownsRow w.heap.size 9 1 (.slice none 0 0) 0 []) := World.ownsRow_nil _ _ _ _
  have HG := hide hg
  clear hg
  go_enter Tryz.func33, Tryz.ntmps33
  go_wp2_with (at_builtin; refine wpList_append_own _ rfl _ _ 125 rfl w.heap.size 9 i0 (.string { data := #[] }) 1 16 Tryz.underlying125 hi0 hz0 hz1 hz2 rfl (by decide) _ _ _ rfl HO.out ⟨g, 0, none⟩ 6 6 six rfl rfl ?c1 ?c2 ?c3 ?c4 ?c5 ?_)
  case c1 => intro j u hj; rw [show (⟨g, 0, none⟩ : Addr).add j = ⟨g, j, none⟩ from by unfold Addr.add; split <;> simp_all]; exact HG.out j u hj
  case c2 => intro u hu; simp [six] at hu; rcases hu with rfl | rfl | rfl | rfl | rfl | rfl <;> rfl
  case c3 => unfold maxLen; omega
  case c4 => omega
  case c5 => omega
  intro v4 w4 hown4 hg4 _
  have HOWN := hide hown4
  have HG4 : Hid (w.grownBy w4 none) := hg4
  obtain ⟨gv, cap, rfl⟩ : ∃ gv cap, v4 = .slice (some ⟨gv, 0, none⟩) 6 cap := by
    rcases hown4.2 with ⟨_, h0⟩ | ⟨g', cap, cur, hv, _⟩
    · simp at h0
    · exact ⟨g', cap, hv⟩
  clear hown4 hg4
  go_wp2
  go_ret
  have hlt : gv < w4.heap.size := (own_blk HOWN.out rfl).2
  have hbx := Box.new w4 [.int .u32 0, .int .i32 0, .int .u32 0, .nilIface, .slice (some ⟨gv, 0, none⟩) 6 cap] 141
  refine ⟨⟨w4.heap.size, rfl, HG4.out.size, by simp, ⟨⟨_, _, heap_alloc_new w4 _⟩, gv, cap, hbx, by omega, fun j u hj => ?_⟩⟩, fr_both HG4.out (fr_alloc _ _ _)⟩
  have := HOWN.out.cells (g := gv) rfl j u (by simpa using hj)
  rw [show (⟨gv, 0, none⟩ : Addr).add j = ⟨gv, j, none⟩ from by unfold Addr.add; split <;> simp_all] at this
  exact grown_cell0 (fr_alloc _ _ _) this
end Go.Proofs.YtoelacloghkooaaGreatDoor

/-
  The document's Reader: many.
-/
namespace Go.Proofs.YtoelacloghkooaaGreatDoor
open Go.ChangeShapes Go.WideShapes Go.ChangeAt Go.RowKit
set_option linter.unusedVariables false
theorem manyS_fit (s : ByteArray) (no : Bool) {st : RSt} (h : Fit s st) : Fit s (manyS no st) := by
  unfold manyS; split
  · exact failS_fit s _ _ h (by decide)
  · exact h
/-- behind too many terms no other one is read -/
theorem many_stops (s : ByteArray) (st : RSt) (h : Fit s st) (sg : List UInt8) : isS sg (termS s (manyS false st)).2 = false := by
  by_cases he : st.e = 0
  · unfold manyS
    split
    · have hd : (failS 7 st.a st).e ≠ 0 := by unfold failS; rw [if_pos he]; simp
      rw [termS_dead s hd]; exact isS_dead hd sg
    · rename_i hn
      simp only [Bool.or_eq_true, decide_eq_true_eq, Bool.false_and, Bool.false_eq_true, or_false, not_or] at hn
      have hq : quotS s st = st := by unfold quotS; rw [if_neg hn.2]
      have hk : termKind st.kd = false := by
        have := h.2.2 he
        simp [termKind, hn.1.1.1, hn.1.1.2, hn.1.2, this]
      rw [termS_no hq hk]
      apply isS_dead
      unfold failS; rw [if_pos he]; simp
  · rw [manyS_dead he, termS_dead s he]; exact isS_dead he sg
set_option maxRecDepth 100000 in
set_option maxHeartbeats 4000000 in
theorem rmany_any (b : Nat) (s : ByteArray) (st : RSt) (no : Bool) (w : World) (h : RP w b s st) :
    Calls Tryz.prog 49 #[.pointer (some ⟨b, 0, none⟩), .bool no] w fun en w' => en = .returned (.tuple #[]) ∧ RP w' b s (manyS no st) ∧ RFx w w' b := by
  have HS : Hid (RP w b s st) := h
  obtain ⟨c0, c1, c2, c3, c4, c5, c6, f1, f2, f3, f4, f5, f6⟩ := h
  have e1 : ∀ n : Nat, ((st.kd : Int) == (n : Nat)) = true ↔ st.kd = n := fun n => by simp; omega
  have e2 : ∀ n : Nat, ((st.kd : Int) == (n : Nat)) = false ↔ ¬ st.kd = n := fun n => by rw [beq_eq_false_iff_ne]; omega
  obtain ⟨Q, HQ⟩ : ∃ Q, Hid (isS [34] st = Q) := ⟨_, (rfl : _ = _)⟩
  have hcase : ((((st.kd : Int) == 1) = true ∨ (((st.kd : Int) == 1) = false ∧ ((st.kd : Int) == 2) = true) ∨ (((st.kd : Int) == 1) = false ∧ ((st.kd : Int) == 2) = false ∧ ((st.kd : Int) == 3) = true) ∨ (((st.kd : Int) == 1) = false ∧ ((st.kd : Int) == 2) = false ∧ ((st.kd : Int) == 3) = false ∧ no = true ∧ ((st.kd : Int) == 4) = true)) ∧ Hid (manyS no st = failS 7 st.a st)) ∨
      ((((st.kd : Int) == 1) = false ∧ ((st.kd : Int) == 2) = false ∧ ((st.kd : Int) == 3) = false ∧ no = true ∧ ((st.kd : Int) == 4) = false) ∧ Hid (manyS no st = if Q then failS 7 st.a st else st)) ∨
      ((((st.kd : Int) == 1) = false ∧ ((st.kd : Int) == 2) = false ∧ ((st.kd : Int) == 3) = false ∧ no = false) ∧ Hid (manyS no st = if Q then failS 7 st.a st else st)) := by
    have a1 := e1 1
    have a2 := e1 2
    have a3 := e1 3
    have a4 := e1 4
    have b1 := e2 1
    have b2 := e2 2
    have b3 := e2 3
    have b4 := e2 4
    simp only [Int.cast_ofNat_Int] at a1 a2 a3 a4 b1 b2 b3 b4
    have hq := HQ.out
    unfold Hid manyS
    rw [hq]
    by_cases h1 : st.kd = 1
    · left; exact ⟨Or.inl (a1.2 h1), by simp [h1]⟩
    · by_cases h2 : st.kd = 2
      · left; exact ⟨Or.inr (Or.inl ⟨b1.2 h1, a2.2 h2⟩), by simp [h2]⟩
      · by_cases h3 : st.kd = 3
        · left; exact ⟨Or.inr (Or.inr (Or.inl ⟨b1.2 h1, b2.2 h2, a3.2 h3⟩)), by simp [h3]⟩
        · cases no with
          | true =>
            by_cases h4 : st.kd = 4
            · left; exact ⟨Or.inr (Or.inr (Or.inr ⟨b1.2 h1, b2.2 h2, b3.2 h3, rfl, a4.2 h4⟩)), by simp [h4]⟩
            · right; left; exact ⟨⟨b1.2 h1, b2.2 h2, b3.2 h3, rfl, b4.2 h4⟩, by simp [h1, h2, h3, h4]⟩
          | false => right; right; exact ⟨⟨b1.2 h1, b2.2 h2, b3.2 h3, rfl⟩, by simp [h1, h2, h3]⟩
  clear e1 e2
  generalize manyS no st = M at hcase ⊢
  go_enter Tryz.func49, Tryz.ntmps49
  rcases hcase with ⟨hk, HM⟩ | ⟨⟨g1, g2, g3, rfl, g4⟩, HM⟩ | ⟨⟨g1, g2, g3, rfl⟩, HM⟩
  · rcases hk with g1 | ⟨g1, g2⟩ | ⟨g1, g2, g3⟩ | ⟨g1, g2, g3, rfl, g4⟩
    all_goals
      go_wp2_with fail
      refine (rfailS_any b s st 7 st.a _ HS.out).mono ?_
      rintro en w5 ⟨rfl, HN, HFR⟩
      have HN5 : Hid (RP w5 b s M) := by rw [HM.out]; exact HN
      have HG5 : Hid (RFx w w5 b) := HFR
      clear HN HFR
      go_wp2
      go_end0
      exact ⟨rfl, HN5.out, HG5.out⟩
  all_goals
    go_wp2_with fail
    refine (ris_any b s (str [34]) st _ HS.out).mono ?_
    rintro en w1 ⟨rfl, rfl⟩
    rw [data_str, HQ.out]
    cases Q with
    | true =>
      go_wp2_with fail
      refine (rfailS_any b s st 7 st.a _ HS.out).mono ?_
      rintro en w5 ⟨rfl, HN, HFR⟩
      have HN5 : Hid (RP w5 b s M) := by rw [HM.out]; exact HN
      have HG5 : Hid (RFx w w5 b) := HFR
      clear HN HFR
      go_wp2
      go_end0
      exact ⟨rfl, HN5.out, HG5.out⟩
    | false =>
      have HN5 : Hid (RP w b s M) := by rw [HM.out]; exact HS.out
      go_wp2
      go_end0
      exact ⟨rfl, HN5.out, RFx.refl _ _⟩
end Go.Proofs.YtoelacloghkooaaGreatDoor

/-
  The document's Reader: atom.
-/
namespace Go.Proofs.YtoelacloghkooaaGreatDoor
open Go.ChangeShapes Go.WideShapes Go.ChangeAt Go.RowKit
set_option linter.unusedVariables false
def termsV (l : List PTerm) : List Value := l.flatMap termV
theorem termsV_len (l : List PTerm) : (termsV l).length = l.length * 3 := by
  induction l with
  | nil => rfl
  | cons t l ih => simp [termsV, List.flatMap_cons, termV] at ih ⊢; omega
theorem termsV_snoc (l : List PTerm) (t : PTerm) : termsV l ++ termV t = termsV (l ++ [t]) := by simp [termsV]
theorem infoTerm : (Tryz.prog.info? 101).map (fun i => (i.zero, i.size, i.bytes)) = some (some (.agg #[.bool false, .string { data := #[] }, .int .i64 0]), 3, 32) := by kernel_rfl
theorem Box.at (w : World) (g : Nat) (cs : List Value) (t : TypeId) (hg : g = w.heap.size) : Box (w.alloc (.cells cs.toArray t)) g cs := by subst hg; exact Box.new w cs t
theorem Box.set {w : World} {g : Nat} {vs : List Value} (h : Box w g vs) (j : Nat) (old u : Value) (hj : vs[j]? = some old) : Box (w.setCell ⟨g, j, none⟩ u) g (vs.set j u) := by
  constructor
  · intro k v hk
    by_cases e : j = k
    · subst e
      rw [List.getElem?_set_self (List.getElem?_eq_some_iff.1 hj).1] at hk
      cases hk
      exact World.cell?_setCell_same _ _ _ (h.c j old hj)
    · rw [List.getElem?_set_ne e] at hk
      rw [World.cell?_setCell_other _ _ _ _ (by intro g; cases g; exact e rfl)]
      exact h.c k v hk
  · intro k v hk
    rw [World.frozen?_setCell]
    by_cases e : j = k
    · subst e; exact h.f j old hj
    · rw [List.getElem?_set_ne e] at hk; exact h.f k v hk
/-- the document's atom, as it is handed back -/
def AtomR (base : Nat) (a : PAtom) (en : Ending) (w : World) : Prop :=
  ∃ v, en = .returned (.agg #[.string (str a.name), v, .int .i64 (a.place : Nat)]) ∧ w.ownsRow base 101 3 v a.args.length (termsV a.args)
def lenAt (w : World) (g j : Nat) : Nat := match w.cell? ⟨g, j, none⟩ with
  | some (.slice _ n _) => n
  | _ => 0
theorem lenAt_is {w : World} {g j n c : Nat} {a : Option Addr} (h : w.cell? ⟨g, j, none⟩ = some (.slice a n c)) : lenAt w g j = n := by unfold lenAt; rw [h]
theorem argsS_dead (s : ByteArray) (n : Nat) (acc : List PTerm) {st : RSt} (h : st.e ≠ 0) : argsS s n acc st = (acc, st) := by
  cases n with
  | zero => rfl
  | succ n => unfold argsS; rw [if_neg h]
theorem argsS_step (s : ByteArray) (n : Nat) (acc : List PTerm) {st : RSt} (h : st.e = 0) : argsS s (n + 1) acc st =
    if isS [44] (termS s (if 8 ≤ acc.length then manyS false st else st)).2 then argsS s n (acc ++ [(termS s (if 8 ≤ acc.length then manyS false st else st)).1]) (nextS s (termS s (if 8 ≤ acc.length then manyS false st else st)).2)
    else (acc ++ [(termS s (if 8 ≤ acc.length then manyS false st else st)).1], (termS s (if 8 ≤ acc.length then manyS false st else st)).2) := by
  rw [argsS, if_pos h]
/-- what an append leaves as it was -/
theorem app_block {w w4 : World} {o1 o2 : Obj} {row : Option Nat} (hg : ((w.alloc o1).alloc o2).grownBy w4 row) {k : Nat} (hk : k < w.heap.size) (hne : some k ≠ row) : w4.heap[k]? = w.heap[k]? := by
  rw [hg.block k (by simp; omega) hne, Below.heap_alloc _ _ _ (by simp; omega), Below.heap_alloc _ _ _ hk]
theorem app_grown {w w2 w4 : World} {o1 o2 : Obj} {b base : Nat} {e : TypeId} {size : Nat} {v : Value} {n : Nat} {xs : List Value} (h : w.grownBy w2 (some b)) (ho : w2.ownsRow base e size v n xs) (hb : w.heap.size ≤ base) (hg : ((w2.alloc o1).alloc o2).grownBy w4 v.ownBlock) : w.grownBy w4 (some b) :=
  fr_own (fr_both (fr_both h (fr_alloc _ _ _)) (fr_alloc _ _ _)) ((ho.alloc _).alloc _) hb hg
theorem own_ne {w : World} {base : Nat} {e : TypeId} {size : Nat} {v : Value} {n : Nat} {xs : List Value} (h : w.ownsRow base e size v n xs) {k : Nat} (hk : k < base) : some k ≠ v.ownBlock := fun g => by have := (own_blk h g.symm).1; omega
set_option maxRecDepth 100000 in
set_option maxHeartbeats 4000000 in
theorem ratom_any (b : Nat) (s : ByteArray) (st : RSt) (name : List UInt8) (x : Nat) (w : World) (h : RP w b s st) (hf : Fit s st) (hs : s.size ≤ 1073741824) :
    Calls Tryz.prog 47 #[.pointer (some ⟨b, 0, none⟩), .string (str name), .int .i64 (x : Nat)] w fun en w' => AtomR w.heap.size (atomS s name x st).1 en w' ∧ RP w' b s (atomS s name x st).2 ∧ w.grownBy w' (some b) := by
  obtain ⟨i0, hi0, hz0, hz1, hz2⟩ := info_parts infoTerm
  have HS : Hid (RP w b s st) := h
  have HF : Hid (Fit s st) := hf
  have hbw : b < w.heap.size := RS.lt h
  obtain ⟨NM, HNM⟩ : ∃ NM, Hid (str name = NM) := ⟨_, (rfl : _ = _)⟩
  rw [HNM.out]
  clear h hf
  go_enter Tryz.func47, Tryz.ntmps47
  go_wp2_with fail
  generalize hw0 : World.alloc (World.alloc _ _) _ = w0
  have HZ0 : Hid (w0.heap.size = w.heap.size + 2) := by show _ = _; rw [← hw0]; simp
  have HX0 : Hid (Box w0 w.heap.size [.string { data := #[] }, .slice none 0 0, .int .i64 0]) := by rw [← hw0]; exact (Box.new _ _ _).grown (by simp) (fr_alloc _ _ none) (by simp)
  have HA0 : Hid (Box w0 (w.heap.size + 1) [.string NM, .slice none 0 0, .int .i64 (x : Nat)]) := by
    rw [← hw0]
    exact Box.at _ _ _ _ (by simp)
  have HS0 : Hid (RP w0 b s st) := by rw [← hw0]; exact (HS.out.grown (fr_alloc _ _ none) (by simp)).grown (fr_alloc _ _ none) (by simp)
  have HG0 : Hid (w.grownBy w0 (some b)) := by rw [← hw0]; exact fr_both (fr_alloc _ _ _) (fr_alloc _ _ _)
  clear hw0 HS
  refine (rgot_any b s (str [40]) st _ HS0.out HF.out.1 hs).mono ?_
  rintro en w1 ⟨rfl, HN, HFR⟩
  rw [data_str] at HN ⊢
  have hbX : ¬ b = w.heap.size := by omega
  have hbA : ¬ b = w.heap.size + 1 := by omega
  have HX1 : Hid (Box w1 w.heap.size [.string { data := #[] }, .slice none 0 0, .int .i64 0]) := HX0.out.grown (by simp) HFR.g (by simp; omega)
  have HA1 : Hid (Box w1 (w.heap.size + 1) [.string NM, .slice none 0 0, .int .i64 (x : Nat)]) := HA0.out.grown (by simp) HFR.g (by simp; omega)
  have HG1 : Hid (w.grownBy w1 (some b)) := fr_both HG0.out HFR.g
  have HZ1 : Hid (w1.heap.size = w.heap.size + 2) := by show _ = _; rw [HFR.size]; exact HZ0.out
  have HN1 : Hid (RP w1 b s (gotS s [40] st)) := HN
  clear HN HFR HX0 HA0 HG0 HZ0 HS0
  obtain ⟨B, HB⟩ : ∃ B, Hid (isS [40] st = B) := ⟨_, (rfl : _ = _)⟩
  rw [HB.out]
  cases B with
  | false =>
    have HAT : Hid (atomS s name x st = (⟨name, [], x⟩, st)) := by show _ = _; unfold atomS; rw [HB.out]; rfl
    have HN2 : Hid (RP w1 b s st) := by have := HN1.out; unfold gotS at this; rw [HB.out] at this; exact this
    have x0 := HX1.out.c 0 _ rfl
    have x1 := HX1.out.c 1 _ rfl
    have x2 := HX1.out.c 2 _ rfl
    have y0 := HX1.out.f 0 _ rfl
    have y1 := HX1.out.f 1 _ rfl
    have y2 := HX1.out.f 2 _ rfl
    have z0 := HA1.out.c 0 _ rfl
    have z1 := HA1.out.c 1 _ rfl
    have z2 := HA1.out.c 2 _ rfl
    go_wp2
    refine bodyPost_ret (v := .agg #[.string NM, .slice none 0 0, .int .i64 (x : Nat)]) (by simp [results, Tryz.results47, go_sem, x0, x1, x2]) rfl ⟨?_, ?_, ?_⟩
    · rw [HAT.out]; exact ⟨_, by rw [HNM.out], World.ownsRow_nil _ _ _ _⟩
    · rw [HAT.out]; exact ((HN2.out.other hbX _ _).other hbX _ _).other hbX _ _
    · exact fr_new (fr_new (fr_new HG1.out (Nat.le_refl _) _ _) (Nat.le_refl _) _ _) (Nat.le_refl _) _ _
  | true =>
    have HAT : Hid (atomS s name x st = (⟨name, (argsS s 10 [] (nextS s st)).1, x⟩, mustS s [41] (argsS s 10 [] (nextS s st)).2)) := by show _ = _; unfold atomS; rw [if_pos HB.out]
    have HN2 : Hid (RP w1 b s (nextS s st)) := by have := HN1.out; unfold gotS at this; rw [if_pos HB.out] at this; exact this
    have HF2 : Hid (Fit s (nextS s st)) := nextS_fit s st HF.out.1
    clear HN1
    go_wp2_with fail
    go_loopw [8, 9] (fun m t wr => ∃ (mb : Bool) (args : List PTerm) (q : RSt) (v : Value), m = .bool mb ∧ args.length ≤ 9 ∧ Hid (mb = true → q.e = 0 → args.length ≤ 8) ∧ Hid (RP wr b s q) ∧ Hid (Fit s q) ∧ Hid (Box wr w.heap.size [.string { data := #[] }, .slice none 0 0, .int .i64 0]) ∧ Hid (Box wr (w.heap.size + 1) [.string NM, v, .int .i64 (x : Nat)]) ∧ Hid (wr.ownsRow (w.heap.size + 2) 101 3 v args.length (termsV args)) ∧ Hid (w.grownBy wr (some b)) ∧ Hid (argsS s 10 [] (nextS s st) = if mb then argsS s (10 - args.length) args q else (args, q))) (fun _ _ wr => 10 - lenAt wr (w.heap.size + 1) 1)
    case atStart => exact ⟨true, [], nextS s st, .slice none 0 0, rfl, by simp, fun _ _ => by simp, HN2, HF2, HX1, HA1, World.ownsRow_nil _ _ _ _, HG1, (rfl : _ = _)⟩
    case round =>
      obtain ⟨mb, args, q, v, rfl, hal, HLE, HR, HFQ, HX, HA, HO, HG, HARG⟩ := hrel
      obtain ⟨va, vc, rfl⟩ := own_form HO.out
      clear HX1 HA1 HN2 HF2 HG1
      obtain ⟨c0, c1, c2, c3, c4, c5, c6, f1, f2, f3, f4, f5, f6⟩ := HR.out
      have HLN : Hid (lenAt wr (w.heap.size + 1) 1 = args.length) := lenAt_is (HA.out.c 1 _ rfl)
      have hex : (mb = true ∧ ((q.e : Int) == 0) = true ∧ args.length ≤ 8 ∧ Hid (q.e = 0)) ∨ ((mb = false ∨ (mb = true ∧ ((q.e : Int) == 0) = false)) ∧ Hid (argsS s 10 [] (nextS s st) = (args, q))) := by
        cases mb with
        | false => exact Or.inr ⟨Or.inl rfl, HARG.out⟩
        | true =>
          by_cases he : q.e = 0
          · exact Or.inl ⟨rfl, by simp [he], HLE.out rfl he, he⟩
          · refine Or.inr ⟨Or.inr ⟨rfl, by rw [beq_eq_false_iff_ne]; omega⟩, ?_⟩
            have := HARG.out
            rw [if_pos rfl, argsS_dead s _ _ he] at this
            exact this
      rcases hex with ⟨rfl, he, hl8, HE0⟩ | ⟨hex, HEND⟩
      · have HSTEP : Hid (argsS s 10 [] (nextS s st) = argsS s (9 - args.length + 1) args q) := by
          have := HARG.out
          rw [if_pos rfl] at this
          show _ = _
          rw [this, show 10 - args.length = 9 - args.length + 1 from by omega]
        clear HARG HLE
        have z1 := HA.out.c 1 _ rfl
        have hT := argsS_step s (9 - args.length) args HE0.out
        have HFM : Hid (Fit s (if 8 ≤ args.length then manyS false q else q)) := by
          show Fit _ _
          split
          · exact manyS_fit s _ HFQ.out
          · exact HFQ.out
        have HST8 : Hid (8 ≤ args.length → isS [44] (termS s (if 8 ≤ args.length then manyS false q else q)).2 = false) := by
          intro h8; rw [if_pos h8]; exact many_stops s q HFQ.out _
        have HSTEP2 := hide (HSTEP.out.trans hT)
        clear hT HSTEP
        go_upto_if 28 with fail
        go_cut [] (fun wc => Hid (RP wc b s (if 8 ≤ args.length then manyS false q else q)) ∧ Hid (RFx wr wc b))
        case first =>
          by_cases h8 : 8 ≤ args.length
          · go_wp2_with fail
            refine (rmany_any b s q false _ HR.out).mono ?_
            rintro en w2 ⟨rfl, HN, HFR⟩
            have HN2 : Hid (RP w2 b s (if 8 ≤ args.length then manyS false q else q)) := by rw [if_pos h8]; exact HN
            have HF2 : Hid (RFx wr w2 b) := HFR
            clear HN HFR
            go_wp2_with fail
            go_meet
            case rel => exact ⟨HN2, HF2⟩
          · have h8' : args.length < 8 := by omega
            have HN2 : Hid (RP wr b s (if 8 ≤ args.length then manyS false q else q)) := by rw [if_neg h8]; exact HR.out
            clear h8
            go_wp2_with fail
            go_meet
            case rel => exact ⟨HN2, RFx.refl _ _⟩
        case rest =>
          obtain ⟨HRc, HFc⟩ := hcut
          obtain ⟨q1, HQ1⟩ : ∃ q1, Hid ((if 8 ≤ args.length then manyS false q else q) = q1) := ⟨_, (rfl : _ = _)⟩
          rw [HQ1.out] at HRc HFM HST8 HSTEP2
          have HXc : Hid (Box wc w.heap.size [.string { data := #[] }, .slice none 0 0, .int .i64 0]) := HX.out.grown (by simp) HFc.out.g (by simp; omega)
          have HAc : Hid (Box wc (w.heap.size + 1) [.string NM, .slice va args.length vc, .int .i64 (x : Nat)]) := HA.out.grown (by simp) HFc.out.g (by simp; omega)
          have HOc : Hid (wc.ownsRow (w.heap.size + 2) 101 3 (.slice va args.length vc) args.length (termsV args)) := own_far HO.out HFc.out.g (fun g hg => by have := (own_blk HO.out hg).1; simp; omega)
          have HGc : Hid (w.grownBy wc (some b)) := fr_both HG.out HFc.out.g
          clear HX HA HO HG HR HFQ HFc z1 c0 c1 c2 c3 c4 c5 c6 f1 f2 f3 f4 f5 f6
          go_wp2_with fail
          refine (rterm_any b s q1 _ HRc.out HFM.out hs).mono ?_
          rintro en w2 ⟨rfl, HN, HFR⟩
          have HX2 : Hid (Box w2 w.heap.size [.string { data := #[] }, .slice none 0 0, .int .i64 0]) := HXc.out.grown (by simp) HFR (by simp; omega)
          have HA2 : Hid (Box w2 (w.heap.size + 1) [.string NM, .slice va args.length vc, .int .i64 (x : Nat)]) := HAc.out.grown (by simp) HFR (by simp; omega)
          have HO2 : Hid (w2.ownsRow (w.heap.size + 2) 101 3 (.slice va args.length vc) args.length (termsV args)) := own_far HOc.out HFR (fun g hg => by have := (own_blk HOc.out hg).1; simp; omega)
          have HG2 : Hid (w.grownBy w2 (some b)) := fr_both HGc.out HFR
          have HFT : Hid (Fit s (termS s q1).2) := termS_fit s q1 HFM.out
          obtain ⟨tq, HTQ⟩ : ∃ tq, Hid (termS s q1 = tq) := ⟨_, (rfl : _ = _)⟩
          rw [HTQ.out] at HN HFT HST8 HSTEP2 ⊢
          obtain ⟨t1, q2⟩ := tq
          have HN2 : Hid (RP w2 b s q2) := HN
          clear HN HFR HXc HAc HOc HGc HRc HFM
          obtain ⟨tt, HTT⟩ : ∃ tt, Hid (str t1.text = tt) := ⟨_, (rfl : _ = _)⟩
          have HTV : Hid (termV t1 = [.bool t1.isVar, .string tt, .int .i64 (t1.place : Nat)]) := by show _ = _; unfold termV; rw [HTT.out]
          simp only [] at HST8 HSTEP2
          rw [show (termV (t1, q2).1).toArray = #[.bool t1.isVar, .string tt, .int .i64 (t1.place : Nat)] from by show (termV t1).toArray = _; rw [HTV.out]]
          have z1 := HA2.out.c 1 _ rfl
          have hwl : w.heap.size + 1 < w2.heap.size := HA2.out.lt (by simp)
          go_wp2_with (at_builtin; refine wpList_append_own _ rfl _ _ 59 rfl (w.heap.size + 2) 101 i0 (.agg #[.bool false, .string { data := #[] }, .int .i64 0]) 3 32 Tryz.underlying59 hi0 hz0 hz1 hz2 rfl (by decide) _ _ _ rfl ((HO2.out.alloc _).alloc _) ⟨w2.heap.size + 1, 0, none⟩ 1 1 [.bool t1.isVar, .string tt, .int .i64 (t1.place : Nat)] rfl rfl ?c1 ?c2 ?c3 ?c4 ?c5 ?_)
          case c1 =>
            intro j' u hj'
            match j', hj' with
            | 0, hj' => simp at hj'; subst hj'; exact World.cell?_alloc_at _ _ _ _ (by simp)
            | 1, hj' => simp at hj'; subst hj'; exact World.cell?_alloc_at _ _ _ _ (by simp)
            | 2, hj' => simp at hj'; subst hj'; exact World.cell?_alloc_at _ _ _ _ (by simp)
          case c2 => intro u hu; simp at hu; rcases hu with rfl | rfl | rfl <;> rfl
          case c3 => unfold maxLen; omega
          case c4 => omega
          case c5 => simp; omega
          intro v4 w4 hown4 hg4 _
          obtain ⟨a4, p4, rfl⟩ := own_form hown4
          have HX4 : Hid (Box w4 w.heap.size [.string { data := #[] }, .slice none 0 0, .int .i64 0]) := HX2.out.far (app_block hg4 (by omega) (own_ne HO2.out (by omega)))
          have HA4 : Hid (Box w4 (w.heap.size + 1) [.string NM, .slice va args.length vc, .int .i64 (x : Nat)]) := HA2.out.far (app_block hg4 (by omega) (own_ne HO2.out (by omega)))
          have HN4 : Hid (RP w4 b s q2) := RS.far HN2.out (app_block hg4 (by omega) (own_ne HO2.out (by omega)))
          have HG4 : Hid (w.grownBy w4 (some b)) := app_grown HG2.out HO2.out (by omega) hg4
          have HO4 : Hid (w4.ownsRow (w.heap.size + 2) 101 3 (.slice a4 (args.length + 1) p4) (args ++ [t1]).length (termsV (args ++ [t1]))) := by
            rw [← termsV_snoc, HTV.out, List.length_append]; exact hown4
          clear hown4 hg4 HX2 HA2 HN2 HG2 HO2 z1
          have z1 := HA4.out.c 1 _ rfl
          have zf := HA4.out.f 1 _ rfl
          go_wp2_with fail
          generalize hw5 : World.setCell _ _ _ = w5
          have HX5 : Hid (Box w5 w.heap.size [.string { data := #[] }, .slice none 0 0, .int .i64 0]) := by rw [← hw5]; exact HX4.out.grown (by simp) (fr_set _ _ _ _) (by simp)
          have HA5 : Hid (Box w5 (w.heap.size + 1) [.string NM, .slice a4 (args.length + 1) p4, .int .i64 (x : Nat)]) := by rw [← hw5]; exact HA4.out.set 1 _ _ rfl
          have HN5 : Hid (RP w5 b s q2) := by rw [← hw5]; exact HN4.out.other hbA _ _
          have HG5 : Hid (w.grownBy w5 (some b)) := by rw [← hw5]; exact fr_new HG4.out (by omega) _ _
          have HO5 : Hid (w5.ownsRow (w.heap.size + 2) 101 3 (.slice a4 (args.length + 1) p4) (args ++ [t1]).length (termsV (args ++ [t1]))) := by
            rw [← hw5]; exact own_far HO4.out (fr_set _ _ _ _) (fun g hg => by have := (own_blk HO4.out hg).1; simp; omega)
          clear hw5 HX4 HA4 HN4 HG4 HO4 z1 zf
          refine (rgot_any b s (str [44]) q2 _ HN5.out HFT.out.1 hs).mono ?_
          rintro en w6 ⟨rfl, HN, HFR⟩
          rw [data_str] at HN ⊢
          have HX6 : Hid (Box w6 w.heap.size [.string { data := #[] }, .slice none 0 0, .int .i64 0]) := HX5.out.grown (by simp) HFR.g (by simp; omega)
          have HA6 : Hid (Box w6 (w.heap.size + 1) [.string NM, .slice a4 (args.length + 1) p4, .int .i64 (x : Nat)]) := HA5.out.grown (by simp) HFR.g (by simp; omega)
          have HG6 : Hid (w.grownBy w6 (some b)) := fr_both HG5.out HFR.g
          have HO6 : Hid (w6.ownsRow (w.heap.size + 2) 101 3 (.slice a4 (args.length + 1) p4) (args ++ [t1]).length (termsV (args ++ [t1]))) := own_far HO5.out HFR.g (fun g hg => by have := (own_blk HO5.out hg).1; simp; omega)
          have HN6 : Hid (RP w6 b s (gotS s [44] q2)) := HN
          have HF6 : Hid (Fit s (gotS s [44] q2)) := by
            show Fit _ _
            unfold gotS; split
            · exact nextS_fit s q2 HFT.out.1
            · exact HFT.out
          have HL6 : Hid (isS [44] q2 = true → (gotS s [44] q2).e = 0 → (args ++ [t1]).length ≤ 8) := by
            intro h1 _
            rw [List.length_append]
            by_cases h8 : 8 ≤ args.length
            · rw [HST8.out h8] at h1; cases h1
            · simp; omega
          have HE6 : Hid (argsS s 10 [] (nextS s st) = if isS [44] q2 then argsS s (10 - (args ++ [t1]).length) (args ++ [t1]) (gotS s [44] q2) else (args ++ [t1], gotS s [44] q2)) := by
            show _ = _
            rw [HSTEP2.out]
            unfold gotS
            rw [List.length_append, show 10 - (args.length + [t1].length) = 9 - args.length from by simp]
            cases isS [44] q2 <;> rfl
          clear HN HFR HX5 HA5 HG5 HO5 HN5
          have HLN6 : Hid (lenAt w6 (w.heap.size + 1) 1 = args.length + 1) := lenAt_is (HA6.out.c 1 _ rfl)
          go_wp2_with fail
          go_roundw
          case rel => exact ⟨isS [44] q2, args ++ [t1], gotS s [44] q2, .slice a4 (args.length + 1) p4, rfl, by simp; omega, HL6, HN6, HF6, HX6, HA6, HO6, HG6, HE6⟩
          case measure => rw [HLN6.out, HLN.out]; omega
      · have HA' : Hid (atomS s name x st = (⟨name, args, x⟩, mustS s [41] q)) := by show _ = _; rw [HAT.out, HEND.out]
        have x0 := HX.out.c 0 _ rfl
        clear HARG HLE HAT
        rcases hex with rfl | ⟨rfl, he⟩
        all_goals
          go_wp2_with fail
          refine (rmust_any b s (str [41]) q _ HR.out HFQ.out.1 hs).mono ?_
          rintro en w5 ⟨rfl, HN, HFR⟩
          rw [data_str] at HN
          have HX5 : Hid (Box w5 w.heap.size [.string { data := #[] }, .slice none 0 0, .int .i64 0]) := HX.out.grown (by simp) HFR.g (by simp; omega)
          have HA5 : Hid (Box w5 (w.heap.size + 1) [.string NM, .slice va args.length vc, .int .i64 (x : Nat)]) := HA.out.grown (by simp) HFR.g (by simp; omega)
          have HG5 : Hid (w.grownBy w5 (some b)) := fr_both HG.out HFR.g
          have HO5 : Hid (w5.ownsRow (w.heap.size + 2) 101 3 (.slice va args.length vc) args.length (termsV args)) := own_far HO.out HFR.g (fun g hg => by have := (own_blk HO.out hg).1; simp; omega)
          have HN5 : Hid (RP w5 b s (mustS s [41] q)) := HN
          clear HN HFR c0 c1 c2 c3 c4 c5 c6 f1 f2 f3 f4 f5 f6 x0
          have x0 := HX5.out.c 0 _ rfl
          have x1 := HX5.out.c 1 _ rfl
          have x2 := HX5.out.c 2 _ rfl
          have y0 := HX5.out.f 0 _ rfl
          have y1 := HX5.out.f 1 _ rfl
          have y2 := HX5.out.f 2 _ rfl
          have z0 := HA5.out.c 0 _ rfl
          have z1 := HA5.out.c 1 _ rfl
          have z2 := HA5.out.c 2 _ rfl
          go_wp2
          refine bodyPost_ret (v := .agg #[.string NM, .slice va args.length vc, .int .i64 (x : Nat)]) (by simp [results, Tryz.results47, go_sem, x0, x1, x2]) rfl ⟨?_, ?_, ?_⟩
          · rw [HA'.out]
            refine ⟨_, by rw [HNM.out], own_lower (own_far (own_far (own_far HO5.out (fr_set _ _ _ _) ?_) (fr_set _ _ _ _) ?_) (fr_set _ _ _ _) ?_) (by omega)⟩
            all_goals (intro g hg; have := (own_blk HO5.out hg).1; simp; omega)
          · rw [HA'.out]; exact ((HN5.out.other hbX _ _).other hbX _ _).other hbX _ _
          · exact fr_new (fr_new (fr_new HG5.out (Nat.le_refl _) _ _) (Nat.le_refl _) _ _) (Nat.le_refl _) _ _
end Go.Proofs.YtoelacloghkooaaGreatDoor
