import Derived.Test.YtgllfcoafgphbaaGreatDoorM30
/-
  The program's parser: a query; a lexer that is begun with.
-/
namespace Go.Proofs.YtgllfcoafgphbaaGreatDoor
open Go.ChangeShapes Go.WideShapes Go.ChangeAt Go.RowKit
set_option linter.unusedVariables false
/-- a query from a place on -/
def queryP (l : List UInt8) (p : Nat) : Except PErr (List PPart) := match partsF l p with
  | .error e => .error e
  | .ok (ps, q) => match signF l [46] q with
    | none => .error (2, q)
    | some r => if r = l.length then .ok ps else .error (2, r)
def QueryP (L T M : Addr) (base : Nat) (r : Except PErr (List PPart)) (en : Ending) (w' : World) : Prop := match r with
  | .error (e, x) => en = .returned (.tuple #[.slice none 0 0, errV L T M e x])
  | .ok ps => ∃ v vs, en = .returned (.tuple #[v, .nilIface]) ∧ PartsAt 76 164 base w' v ps vs
theorem parts_le (s : ByteArray) : ∀ (n p : Nat) (xs : List PPart) (q : Nat), p ≤ s.size → listF (atPartB s.data.toList) (partF s.data.toList) (signF s.data.toList [44]) n p = .ok (xs, q) → q ≤ s.size := by
  intro n
  induction n with
  | zero => intro p xs q hp h; unfold listF at h; split at h <;> cases h
  | succ n ih =>
    intro p xs q hp h
    unfold listF at h
    split at h
    · cases ht : partF s.data.toList p with
      | error e => rw [ht] at h; cases h
      | ok tq =>
        obtain ⟨t, q1⟩ := tq
        rw [ht] at h
        have hq1 := partF_le s p hp t q1 ht
        simp only [] at h
        cases hs : signF s.data.toList [44] q1 with
        | none => rw [hs] at h; cases h; exact hq1
        | some r =>
          rw [hs] at h
          simp only [] at h
          have hr := signF_le s [44] q1 r hs (by simp)
          cases hl : listF (atPartB s.data.toList) (partF s.data.toList) (signF s.data.toList [44]) n r with
          | error e => rw [hl] at h; cases h
          | ok v =>
            obtain ⟨ys, r2⟩ := v
            rw [hl] at h
            cases h
            exact ih r ys q hr hl
    · cases h
set_option maxRecDepth 100000 in
set_option maxHeartbeats 1000000 in
theorem pnewLexer_any (s : ByteArray) (w : World) (hs : s.size ≤ 1073741824) :
    Calls Tryz.prog 86 #[.string s] w fun en w' => en = .returned (.agg #[.string s, .int .i64 (skipTo s.data.toList 0 : Nat)]) ∧ w.grownBy w' none := by
  go_enter Tryz.func86, Tryz.ntmps86
  go_wp2_with fail
  generalize hw0 : World.alloc (World.alloc _ _) _ = w0
  have HX0 : Hid (Box w0 w.heap.size [.string { data := #[] }, .int .i64 0]) := by rw [← hw0]; exact (Box.new _ _ _).grown (by simp) (fr_alloc _ _ none) (by simp)
  have HR0 : Hid (Rd w0 (w.heap.size + 1) s (0 : Nat)) := by
    rw [← hw0]
    have hbx := Box.at (w.alloc (.cells #[.string { data := #[] }, .int .i64 0] 148)) (w.heap.size + 1) [.string s, .int .i64 0] 148 (by simp)
    exact ⟨hbx.c 0 _ rfl, hbx.c 1 _ rfl, hbx.f 1 _ rfl⟩
  have HN0 : Hid (w.grownBy w0 none) := by rw [← hw0]; exact fr_both (fr_alloc _ _ _) (fr_alloc _ _ _)
  clear hw0
  refine (pmove_any (w.heap.size + 1) s 0 0 _ HR0.out (Nat.zero_le _) hs).mono ?_
  rintro e w1 ⟨rfl, hr, hf⟩
  have HX1 : Hid (Box w1 w.heap.size [.string { data := #[] }, .int .i64 0]) := HX0.out.grown (by simp) hf.g (by simp)
  have HR1 := hide hr
  have HN1 : Hid (w.grownBy w1 none) := fr_trans HN0.out hf.g (fun g hg => Or.inr (by cases hg; omega))
  clear hr hf HX0 HR0 HN0
  obtain ⟨c0, c1, f1⟩ := HR1.out
  rw [Nat.zero_add] at c1
  have x0 := HX1.out.c 0 _ rfl
  have x1 := HX1.out.c 1 _ rfl
  have y0 := HX1.out.f 0 _ rfl
  have y1 := HX1.out.f 1 _ rfl
  go_wp2
  refine bodyPost_ret (v := .agg #[.string s, .int .i64 (skipTo s.data.toList 0 : Nat)]) (by simp [results, Tryz.results86, go_sem, x0, x1]) rfl ⟨rfl, ?_⟩
  exact fr_new (fr_new HN1.out (Nat.le_refl _) _ _) (Nat.le_refl _) _ _
end Go.Proofs.YtgllfcoafgphbaaGreatDoor

/-
  The program's parser: a rule.
-/
namespace Go.Proofs.YtgllfcoafgphbaaGreatDoor
open Go.ChangeShapes Go.WideShapes Go.ChangeAt Go.RowKit
set_option linter.unusedVariables false
def ruleZP : List Value := [.string { data := #[] }, .slice none 0 0, .int .i64 0, .slice none 0 0]
def RuleP (L T M : Addr) (base b : Nat) (s : ByteArray) (r : Except PErr (PRule × Nat)) (en : Ending) (w' : World) : Prop := match r with
  | .error (e, x) => ∃ nm pa pn pc pl ba bn bc, en = .returned (.tuple #[.agg #[.string nm, .slice pa pn pc, .int .i64 pl, .slice ba bn bc], errV L T M e x])
  | .ok (r, q) => ∃ hv bv us, en = .returned (.tuple #[.agg #[.string (str r.head.name), hv, .int .i64 (r.head.place : Nat), bv], .nilIface]) ∧ w'.ownsRow base 76 3 hv r.head.args.length (termsV r.head.args) ∧ PartsAt 76 164 base w' bv r.body us ∧ Rd w' b s (q : Nat)
theorem ruleF_is (l : List UInt8) (p : Nat) : ruleF l p = match atomF l p with
  | .error e => .error e
  | .ok (h, q) => match (match signF l [58, 45] q with
      | none => Except.ok ([], q)
      | some r => partsF l r : Except PErr (List PPart × Nat)) with
    | .error e => .error e
    | .ok (b, r) => match signF l [46] r with
      | none => .error (2, r)
      | some r2 => .ok (⟨h, b⟩, r2) := rfl
/-- a cell below turned -/
theorem PartsAt.setR {tT tP : TypeId} {R : Nat} {w : World} {v : Value} {ps : List PPart} {vs : List Value} (h : PartsAt tT tP (R + 1) w v ps vs) (j : Nat) (u : Value) : PartsAt tT tP (R + 1) (w.setCell ⟨R, j, none⟩ u) v ps vs :=
  h.kept (fr_set w R j u) (fun g hg => by cases hg; omega)
set_option maxRecDepth 100000 in
set_option maxHeartbeats 8000000 in
theorem prule_any (b : Nat) (s : ByteArray) (p : Nat) (L T M : Addr) (w : World) (h : Rd w b s p) (hE : Errs w L T M) (hb : gTop ≤ b) (hp : p ≤ s.size) (hs : s.size ≤ 1073741824) :
    Calls Tryz.prog 90 #[.pointer (some ⟨b, 0, none⟩)] w fun en w' => RuleP L T M w.heap.size b s (ruleF s.data.toList p) en w' ∧ w.grownBy w' (some b) := by
  have hbw := h.lt
  have HT := hide (ruleF_is s.data.toList p)
  have HR := hide h
  have HE := hide hE
  clear h hE
  obtain ⟨RES, HRES⟩ : ∃ RES, Hid (ruleF s.data.toList p = RES) := ⟨_, (rfl : _ = _)⟩
  rw [HRES.out] at HT ⊢
  clear HRES
  have hbX : ¬ b = w.heap.size := by omega
  go_enter Tryz.func90, Tryz.ntmps90
  go_wp2_with fail
  generalize hw0 : World.alloc _ _ = w0
  have HX0 : Hid (Box w0 w.heap.size ruleZP) := by rw [← hw0]; exact Box.new _ _ _
  have HR0 : Hid (Rd w0 b s p) := by rw [← hw0]; exact HR.out.other (fr_alloc _ _ none) (by simp)
  have HG0 : Hid (w.grownBy w0 (some b)) := by rw [← hw0]; exact fr_alloc _ _ _
  have HE0 : Hid (Errs w0 L T M) := HE.out.grown HG0.out hb
  have hz0 : w.heap.size < w0.heap.size := HX0.out.lt (by simp [ruleZP])
  clear hw0 HR HE
  refine (patom_any b s p L T M _ HR0.out HE0.out hb hp hs).mono ?_
  rintro e w1 ⟨ha, hg⟩
  have HX1 : Hid (Box w1 w.heap.size ruleZP) := HX0.out.grown (by simp [ruleZP]) hg (by simp; omega)
  have HG1 : Hid (w.grownBy w1 (some b)) := fr_both HG0.out hg
  have HE1 : Hid (Errs w1 L T M) := HE0.out.grown hg hb
  have hz1 : w0.heap.size ≤ w1.heap.size := hg.size
  clear hg HX0 HG0 HE0 HR0
  obtain ⟨F, HF⟩ : ∃ F, Hid (atomF s.data.toList p = F) := ⟨_, (rfl : _ = _)⟩
  rw [HF.out] at ha HT
  cases F with
  | error er =>
    obtain ⟨ec, x⟩ := er
    obtain ⟨nm, va, n, c, pl, rfl⟩ := ha
    have HT2 : Hid (RES = .error (ec, x)) := HT.out
    obtain ⟨x0, x1, x2, x3⟩ : w1.cell? ⟨w.heap.size, 0, none⟩ = some (.string { data := #[] }) ∧ w1.cell? ⟨w.heap.size, 1, none⟩ = some (.slice none 0 0) ∧ w1.cell? ⟨w.heap.size, 2, none⟩ = some (.int .i64 0) ∧ w1.cell? ⟨w.heap.size, 3, none⟩ = some (.slice none 0 0) := ⟨HX1.out.c 0 _ rfl, HX1.out.c 1 _ rfl, HX1.out.c 2 _ rfl, HX1.out.c 3 _ rfl⟩
    have HA := hide (fr_alloc w1 (.cells #[.string nm, .slice va n c, .int .i64 pl] 70) none)
    have hX1 : w.heap.size < w1.heap.size := by omega
    have y0 := HX1.out.f 0 _ rfl
    have y1 := HX1.out.f 1 _ rfl
    have y2 := HX1.out.f 2 _ rfl
    have y3 := HX1.out.f 3 _ rfl
    unfold errV
    go_wp2_with fail
    refine bodyPost_ret (v := .tuple #[.agg #[.string { data := #[] }, .slice none 0 0, .int .i64 0, .slice none 0 0], .iface 158 (.agg #[.iface 250 (.pointer (some (errA L T M ec))), .int .i64 (x : Nat)])]) (by simp [results, Tryz.results90, go_sem, x0, x1, x2, x3, hX1]) rfl ⟨?_, ?_⟩
    · rw [HT2.out]; exact ⟨_, _, _, _, _, _, _, _, rfl⟩
    · exact fr_both (fr_new (fr_new (fr_new (fr_new HG1.out (Nat.le_refl _) _ _) (Nat.le_refl _) _ _) (Nat.le_refl _) _ _) (Nat.le_refl _) _ _) (fr_alloc _ _ _)
  | ok v =>
    obtain ⟨a, q1⟩ := v
    obtain ⟨hv, rfl, hown, hrd⟩ := ha
    obtain ⟨va, vc, hvv⟩ := own_form hown
    subst hvv
    have hq1 := atomF_le s p hp a q1 HF.out
    have HO1 := hide hown
    have HR1 := hide hrd
    obtain ⟨nm, HNM⟩ : ∃ nm, Hid (str a.name = nm) := ⟨_, (rfl : _ = _)⟩
    obtain ⟨na, HNA⟩ : ∃ na, Hid (a.args.length = na) := ⟨_, (rfl : _ = _)⟩
    rw [HNM.out, HNA.out]
    rw [HNA.out] at HO1
    have HOG : Hid (∀ g, (Value.slice va na vc).ownBlock = some g → g < w1.heap.size) := fun g hg => (own_blk HO1.out hg).2
    clear hown hrd
    obtain ⟨A, HAA⟩ : ∃ A, Hid (w1.heap.size + 1 = A) := ⟨_, (rfl : _ = _)⟩
    have hAw : w.heap.size + 1 < A := by rw [← HAA.out]; omega
    have hb1 : b < w1.heap.size := by omega
    go_wp2_with fail
    generalize hw2 : World.alloc (World.alloc _ _) _ = w2
    have hfr2 : w1.grownBy w2 none := by rw [← hw2]; exact fr_both (fr_alloc _ _ _) (fr_alloc _ _ _)
    have HA2 : Hid (Box w2 A [.string nm, .slice va na vc, .int .i64 (a.place : Nat), .slice none 0 0]) := by rw [← hw2]; exact Box.at _ _ _ _ (by simp; exact HAA.out.symm)
    have HX2 : Hid (Box w2 w.heap.size ruleZP) := HX1.out.grown (by simp [ruleZP]) hfr2 (by simp)
    have HR2 : Hid (Rd w2 b s q1) := HR1.out.other hfr2 (by simp)
    have HE2 : Hid (Errs w2 L T M) := HE1.out.fresh hfr2
    have HG2 : Hid (w.grownBy w2 (some b)) := fr_trans HG1.out hfr2 (fun g hg => by cases hg)
    have HO2 : Hid (w2.ownsRow (w.heap.size + 1) 76 3 (.slice va na vc) na (termsV a.args)) := own_lower (own_far HO1.out hfr2 (fun g _ e => by cases e)) hz0
    have hz2 : w1.heap.size ≤ w2.heap.size := hfr2.size
    rw [HAA.out]
    clear hw2 hfr2 HX1 HG1 HE1 HR1 HO1
    have hbA : ¬ b = A := by have := HAA.out; omega
    refine (ptake_any b s (str [58, 45]) q1 _ HR2.out hq1 hs).mono ?_
    rintro e w3 ⟨rfl, hrd, HFR⟩
    rw [data_str] at hrd ⊢
    have HX3 : Hid (Box w3 w.heap.size ruleZP) := HX2.out.grown (by simp [ruleZP]) HFR.g (by simp; omega)
    have HA3 : Hid (Box w3 A [.string nm, .slice va na vc, .int .i64 (a.place : Nat), .slice none 0 0]) := HA2.out.grown (by simp) HFR.g (by simp; omega)
    have HE3 : Hid (Errs w3 L T M) := HE2.out.grown HFR.g hb
    have HG3 : Hid (w.grownBy w3 (some b)) := fr_both HG2.out HFR.g
    have HO3 : Hid (w3.ownsRow (w.heap.size + 1) 76 3 (.slice va na vc) na (termsV a.args)) := own_far HO2.out HFR.g (fun g hg e => by have := (own_blk HO2.out hg).1; cases e; omega)
    have hA3 : A < w3.heap.size := HA3.out.lt (by simp)
    obtain ⟨S, HS⟩ : ∃ S, Hid (signF s.data.toList [58, 45] q1 = S) := ⟨_, (rfl : _ = _)⟩
    rw [HS.out] at hrd ⊢
    have HR3 := hide hrd
    clear hrd HFR HX2 HA2 HE2 HG2 HR2 HO2
    have HT1 : Hid (RES = match (match signF s.data.toList [58, 45] q1 with
      | none => Except.ok ([], q1)
      | some r => partsF s.data.toList r : Except PErr (List PPart × Nat)) with
    | .error e => .error e
    | .ok (b, r) => match signF s.data.toList [46] r with
      | none => .error (2, r)
      | some r2 => .ok (⟨a, b⟩, r2)) := HT.out
    rw [HS.out] at HT1
    clear HT
    cases S with
    | none =>
      have HR5 : Hid (Rd w3 b s (q1 : Nat)) := HR3.out
      have HT5 : Hid (RES = match signF s.data.toList [46] q1 with
        | none => .error (2, q1)
        | some r2 => .ok (⟨a, []⟩, r2)) := HT1.out
      have HP5 := hide (PartsAt.nil 76 164 (w.heap.size + 1) w3)
      have x0 := HX3.out.c 0 _ rfl
      have x1 := HX3.out.c 1 _ rfl
      have x2 := HX3.out.c 2 _ rfl
      have x3 := HX3.out.c 3 _ rfl
      have y0 := HX3.out.f 0 _ rfl
      have y1 := HX3.out.f 1 _ rfl
      have y2 := HX3.out.f 2 _ rfl
      have y3 := HX3.out.f 3 _ rfl
      have a0 := HA3.out.c 0 _ rfl
      have a1 := HA3.out.c 1 _ rfl
      have a2 := HA3.out.c 2 _ rfl
      have a3 := HA3.out.c 3 _ rfl
      obtain ⟨S3, HS3⟩ : ∃ S3, Hid (signF s.data.toList [46] q1 = S3) := ⟨_, (rfl : _ = _)⟩
      rw [HS3.out] at HT5
      cases S3 with
      | none =>
        have HT2 : Hid (RES = .error (2, q1)) := HT5.out
        have HWT : Hid (∀ wx : World, (∃ n, wx = w3.drewN n) → Calls Tryz.prog 121 #[.pointer (some ⟨b, 0, none⟩), .string { data := #[46] }] wx fun e w' => e = .returned (errV L T M 2 q1) ∧ Hid (RFr w3 w' b) ∧ w'.cell? ⟨A, 0, none⟩ = some (.string nm) ∧ w'.cell? ⟨A, 1, none⟩ = some (.slice va na vc) ∧ w'.cell? ⟨A, 2, none⟩ = some (.int .i64 (a.place : Nat)) ∧ w'.cell? ⟨A, 3, none⟩ = some (.slice none 0 0) ∧ w'.cell? ⟨w.heap.size, 0, none⟩ = some (.string { data := #[] }) ∧ w'.cell? ⟨w.heap.size, 1, none⟩ = some (.slice none 0 0) ∧ w'.cell? ⟨w.heap.size, 2, none⟩ = some (.int .i64 0) ∧ w'.cell? ⟨w.heap.size, 3, none⟩ = some (.slice none 0 0) ∧ w'.frozen? ⟨w.heap.size, 0, none⟩ = false ∧ w'.frozen? ⟨w.heap.size, 1, none⟩ = false ∧ w'.frozen? ⟨w.heap.size, 2, none⟩ = false ∧ w'.frozen? ⟨w.heap.size, 3, none⟩ = false) := by
          rintro wx ⟨n, rfl⟩
          refine (pwant_any b s (str [46]) q1 L T M _ (HR5.out.drewN n) (HE3.out.drewN n) hb hq1 hs).mono ?_
          rintro e w6 ⟨he, hf⟩
          rw [data_str, HS3.out] at he
          have hA6 := HA3.out.grown (by simp) ((RFr.draws w3 b n).trans hf).g (by simp; omega)
          have hX6 := HX3.out.grown (by simp [ruleZP]) ((RFr.draws w3 b n).trans hf).g (by simp; omega)
          exact ⟨he, (RFr.draws _ _ _).trans hf, hA6.c 0 _ rfl, hA6.c 1 _ rfl, hA6.c 2 _ rfl, hA6.c 3 _ rfl, hX6.c 0 _ rfl, hX6.c 1 _ rfl, hX6.c 2 _ rfl, hX6.c 3 _ rfl, hX6.f 0 _ rfl, hX6.f 1 _ rfl, hX6.f 2 _ rfl, hX6.f 3 _ rfl⟩
        go_wp2_with fail
        go_region_law (first | (go_simp; go_at_call 121; refine (HWT.out _ ⟨0, rfl⟩).mono ?_; rintro e w6 ⟨rfl, HP6, m0, m1, m2, m3, n0, n1, n2, n3, o0, o1, o2, o3⟩) | (go_simp; go_at_call 121; refine (HWT.out _ ⟨1, rfl⟩).mono ?_; rintro e w6 ⟨rfl, HP6, m0, m1, m2, m3, n0, n1, n2, n3, o0, o1, o2, o3⟩))
        all_goals
          go_simp
          go_wp2
          refine bodyPost_ret (v := .tuple #[.agg #[.string nm, .slice va na vc, .int .i64 (a.place : Nat), .slice none 0 0], errV L T M 2 q1]) (by simp [results, Tryz.results90, go_sem, n0, n1, n2, n3]) rfl ⟨?_, ?_⟩
          · rw [HT2.out]; exact ⟨_, _, _, _, _, _, _, _, rfl⟩
          · exact fr_new (fr_new (fr_new (fr_new (fr_both HG3.out HP6.out.g) (Nat.le_refl _) _ _) (Nat.le_refl _) _ _) (Nat.le_refl _) _ _) (Nat.le_refl _) _ _
      | some q4 =>
        have HT2 : Hid (RES = .ok (⟨a, []⟩, q4)) := HT5.out
        have HWT : Hid (∀ wx : World, (∃ n, wx = w3.drewN n) → Calls Tryz.prog 121 #[.pointer (some ⟨b, 0, none⟩), .string { data := #[46] }] wx fun e w' => e = .returned (.nilIface) ∧ Hid (Rd w' b s (q4 : Nat) ∧ RFr w3 w' b) ∧ w'.cell? ⟨A, 0, none⟩ = some (.string nm) ∧ w'.cell? ⟨A, 1, none⟩ = some (.slice va na vc) ∧ w'.cell? ⟨A, 2, none⟩ = some (.int .i64 (a.place : Nat)) ∧ w'.cell? ⟨A, 3, none⟩ = some (.slice none 0 0) ∧ w'.cell? ⟨w.heap.size, 0, none⟩ = some (.string { data := #[] }) ∧ w'.cell? ⟨w.heap.size, 1, none⟩ = some (.slice none 0 0) ∧ w'.cell? ⟨w.heap.size, 2, none⟩ = some (.int .i64 0) ∧ w'.cell? ⟨w.heap.size, 3, none⟩ = some (.slice none 0 0) ∧ w'.frozen? ⟨w.heap.size, 0, none⟩ = false ∧ w'.frozen? ⟨w.heap.size, 1, none⟩ = false ∧ w'.frozen? ⟨w.heap.size, 2, none⟩ = false ∧ w'.frozen? ⟨w.heap.size, 3, none⟩ = false) := by
          rintro wx ⟨n, rfl⟩
          refine (pwant_any b s (str [46]) q1 L T M _ (HR5.out.drewN n) (HE3.out.drewN n) hb hq1 hs).mono ?_
          rintro e w6 ⟨he, hf⟩
          rw [data_str, HS3.out] at he
          have hA6 := HA3.out.grown (by simp) ((RFr.draws w3 b n).trans hf).g (by simp; omega)
          have hX6 := HX3.out.grown (by simp [ruleZP]) ((RFr.draws w3 b n).trans hf).g (by simp; omega)
          exact ⟨he.1, ⟨he.2, (RFr.draws _ _ _).trans hf⟩, hA6.c 0 _ rfl, hA6.c 1 _ rfl, hA6.c 2 _ rfl, hA6.c 3 _ rfl, hX6.c 0 _ rfl, hX6.c 1 _ rfl, hX6.c 2 _ rfl, hX6.c 3 _ rfl, hX6.f 0 _ rfl, hX6.f 1 _ rfl, hX6.f 2 _ rfl, hX6.f 3 _ rfl⟩
        go_wp2_with fail
        go_region_law (first | (go_simp; go_at_call 121; refine (HWT.out _ ⟨0, rfl⟩).mono ?_; rintro e w6 ⟨rfl, HP6, m0, m1, m2, m3, n0, n1, n2, n3, o0, o1, o2, o3⟩) | (go_simp; go_at_call 121; refine (HWT.out _ ⟨1, rfl⟩).mono ?_; rintro e w6 ⟨rfl, HP6, m0, m1, m2, m3, n0, n1, n2, n3, o0, o1, o2, o3⟩))
        all_goals
          go_simp
          go_wp2
          refine bodyPost_ret (v := .tuple #[.agg #[.string nm, .slice va na vc, .int .i64 (a.place : Nat), .slice none 0 0], .nilIface]) (by simp [results, Tryz.results90, go_sem, n0, n1, n2, n3]) rfl ⟨?_, ?_⟩
          · rw [HT2.out]
            refine ⟨.slice va na vc, .slice none 0 0, [], by rw [HNM.out], ?_, ?_, ?_⟩
            · rw [HNA.out]
              refine own_lower (own_other (own_other (own_other (own_other (own_far HO3.out HP6.out.2.g ?_) (Nat.lt_succ_self _) _ _) (Nat.lt_succ_self _) _ _) (Nat.lt_succ_self _) _ _) (Nat.lt_succ_self _) _ _) (by omega)
              intro g hg
              have := (own_blk HO3.out hg).1
              simp; omega
            · refine PartsAt.lower (PartsAt.setR (PartsAt.setR (PartsAt.setR (PartsAt.setR (HP5.out.kept HP6.out.2.g (fun g hg => by cases hg; omega)) _ _) _ _) _ _) _ _) (Nat.le_succ _)
            · exact HP6.out.1.far (by rw [Below.heap_setCell _ _ _ _ hbX, Below.heap_setCell _ _ _ _ hbX, Below.heap_setCell _ _ _ _ hbX, Below.heap_setCell _ _ _ _ hbX])
          · exact fr_new (fr_new (fr_new (fr_new (fr_both HG3.out HP6.out.2.g) (Nat.le_refl _) _ _) (Nat.le_refl _) _ _) (Nat.le_refl _) _ _) (Nat.le_refl _) _ _
    | some q2 =>
      have HR3b : Hid (Rd w3 b s (q2 : Nat)) := HR3.out
      have hq2 := signF_le s [58, 45] q1 q2 HS.out (by simp)
      clear HR3
      go_wp2_with fail
      refine (pparts_any b s q2 L T M _ HR3b.out HE3.out hb hq2 hs).mono ?_
      rintro e w4 ⟨hl, HFR⟩
      have HX4 : Hid (Box w4 w.heap.size ruleZP) := HX3.out.grown (by simp [ruleZP]) HFR (by simp; omega)
      have HA4 : Hid (Box w4 A [.string nm, .slice va na vc, .int .i64 (a.place : Nat), .slice none 0 0]) := HA3.out.grown (by simp) HFR (by simp; omega)
      have HE4 : Hid (Errs w4 L T M) := HE3.out.grown HFR hb
      have HG4 : Hid (w.grownBy w4 (some b)) := fr_both HG3.out HFR
      have HO4 : Hid (w4.ownsRow (w.heap.size + 1) 76 3 (.slice va na vc) na (termsV a.args)) := own_far HO3.out HFR (fun g hg e => by have := (own_blk HO3.out hg).1; cases e; omega)
      clear HFR HX3 HA3 HE3 HG3 HR3b
      obtain ⟨F2, HF2⟩ : ∃ F2, Hid (partsF s.data.toList q2 = F2) := ⟨_, (rfl : _ = _)⟩
      rw [HF2.out] at hl
      have HT4 : Hid (RES = match partsF s.data.toList q2 with
        | .error e => .error e
        | .ok (b, r) => match signF s.data.toList [46] r with
          | none => .error (2, r)
          | some r2 => .ok (⟨a, b⟩, r2)) := HT1.out
      rw [HF2.out] at HT4
      clear HT1
      have a3 := HA4.out.c 3 _ rfl
      have b3 := HA4.out.f 3 _ rfl
      cases F2 with
      | error er =>
        obtain ⟨ec, x⟩ := er
        have hl' : e = .returned (.tuple #[.slice none 0 0, errV L T M ec x]) := hl
        subst hl'
        have HT2 : Hid (RES = .error (ec, x)) := HT4.out
        have x0 := HX4.out.c 0 _ rfl
        have x1 := HX4.out.c 1 _ rfl
        have x2 := HX4.out.c 2 _ rfl
        have x3 := HX4.out.c 3 _ rfl
        have y0 := HX4.out.f 0 _ rfl
        have y1 := HX4.out.f 1 _ rfl
        have y2 := HX4.out.f 2 _ rfl
        have y3 := HX4.out.f 3 _ rfl
        have hRA : ¬ w.heap.size = A := by omega
        have hAR : ¬ A = w.heap.size := by omega
        unfold errV
        go_wp2
        refine bodyPost_ret (v := .tuple #[.agg #[.string { data := #[] }, .slice none 0 0, .int .i64 0, .slice none 0 0], .iface 158 (.agg #[.iface 250 (.pointer (some (errA L T M ec))), .int .i64 (x : Nat)])]) (by simp [results, Tryz.results90, go_sem, x0, x1, x2, x3]) rfl ⟨?_, ?_⟩
        · rw [HT2.out]; exact ⟨_, _, _, _, _, _, _, _, rfl⟩
        · exact fr_new (fr_new (fr_new (fr_new (fr_new HG4.out (by omega) _ _) (Nat.le_refl _) _ _) (Nat.le_refl _) _ _) (Nat.le_refl _) _ _) (Nat.le_refl _) _ _
      | ok lv =>
        obtain ⟨ps, q3⟩ := lv
        obtain ⟨v, vs, rfl, hpa, hrd⟩ := hl
        obtain ⟨ba, bc, hbv⟩ := own_form hpa.own
        subst hbv
        have hq3 := parts_le s 12 q2 ps q3 hq2 HF2.out
        have HP4 := hide hpa
        have HR4 := hide hrd
        obtain ⟨np, HNP⟩ : ∃ np, Hid (ps.length = np) := ⟨_, (rfl : _ = _)⟩
        rw [HNP.out] at HP4 ⊢
        clear hpa hrd
        go_upto_region 9 with fail
        generalize hw5 : World.setCell _ _ _ = w5
        have HA5 : Hid (Box w5 A [.string nm, .slice va na vc, .int .i64 (a.place : Nat), .slice ba np bc]) := by rw [← hw5]; exact HA4.out.set 3 _ _ rfl
        have HX5 : Hid (Box w5 w.heap.size ruleZP) := by rw [← hw5]; exact HX4.out.grown (by simp [ruleZP]) (fr_set _ _ _ _) (by simp; omega)
        have HR5 : Hid (Rd w5 b s q3) := by rw [← hw5]; exact HR4.out.other (fr_set _ _ _ _) (by simp; omega)
        have HE5 : Hid (Errs w5 L T M) := by rw [← hw5]; exact HE4.out.grown (fr_set _ _ _ _) (by omega)
        have HG5 : Hid (w.grownBy w5 (some b)) := by rw [← hw5]; exact fr_new HG4.out (by omega) _ _
        have HO5 : Hid (w5.ownsRow (w.heap.size + 1) 76 3 (.slice va na vc) na (termsV a.args)) := by rw [← hw5]; exact own_far HO4.out (fr_set _ A _ _) (fun g hg e => by have := HOG.out g hg; have := HAA.out; cases e; omega)
        have HP5 : Hid (PartsAt 76 164 (w.heap.size + 1) w5 (.slice ba np bc) ps vs) := by rw [← hw5]; exact (HP4.out.kept (fr_set _ A _ _) (fun g hg => by cases hg; omega)).lower (by omega)
        clear hw5 HA4 HX4 HR4 HE4 HG4 HO4 HP4 a3 b3
        have HT5 : Hid (RES = match signF s.data.toList [46] q3 with
          | none => .error (2, q3)
          | some r2 => .ok (⟨a, ps⟩, r2)) := HT4.out
        have x0 := HX5.out.c 0 _ rfl
        have x1 := HX5.out.c 1 _ rfl
        have x2 := HX5.out.c 2 _ rfl
        have x3 := HX5.out.c 3 _ rfl
        have y0 := HX5.out.f 0 _ rfl
        have y1 := HX5.out.f 1 _ rfl
        have y2 := HX5.out.f 2 _ rfl
        have y3 := HX5.out.f 3 _ rfl
        have a0 := HA5.out.c 0 _ rfl
        have a1 := HA5.out.c 1 _ rfl
        have a2 := HA5.out.c 2 _ rfl
        have a3 := HA5.out.c 3 _ rfl
        obtain ⟨S3, HS3⟩ : ∃ S3, Hid (signF s.data.toList [46] q3 = S3) := ⟨_, (rfl : _ = _)⟩
        rw [HS3.out] at HT5
        cases S3 with
        | none =>
          have HT2 : Hid (RES = .error (2, q3)) := HT5.out
          have HWT : Hid (∀ wx : World, (∃ n, wx = w5.drewN n) → Calls Tryz.prog 121 #[.pointer (some ⟨b, 0, none⟩), .string { data := #[46] }] wx fun e w' => e = .returned (errV L T M 2 q3) ∧ Hid (RFr w5 w' b) ∧ w'.cell? ⟨A, 0, none⟩ = some (.string nm) ∧ w'.cell? ⟨A, 1, none⟩ = some (.slice va na vc) ∧ w'.cell? ⟨A, 2, none⟩ = some (.int .i64 (a.place : Nat)) ∧ w'.cell? ⟨A, 3, none⟩ = some (.slice ba np bc) ∧ w'.cell? ⟨w.heap.size, 0, none⟩ = some (.string { data := #[] }) ∧ w'.cell? ⟨w.heap.size, 1, none⟩ = some (.slice none 0 0) ∧ w'.cell? ⟨w.heap.size, 2, none⟩ = some (.int .i64 0) ∧ w'.cell? ⟨w.heap.size, 3, none⟩ = some (.slice none 0 0) ∧ w'.frozen? ⟨w.heap.size, 0, none⟩ = false ∧ w'.frozen? ⟨w.heap.size, 1, none⟩ = false ∧ w'.frozen? ⟨w.heap.size, 2, none⟩ = false ∧ w'.frozen? ⟨w.heap.size, 3, none⟩ = false) := by
            rintro wx ⟨n, rfl⟩
            refine (pwant_any b s (str [46]) q3 L T M _ (HR5.out.drewN n) (HE5.out.drewN n) hb hq3 hs).mono ?_
            rintro e w6 ⟨he, hf⟩
            rw [data_str, HS3.out] at he
            have hA6 := HA5.out.grown (by simp) ((RFr.draws w5 b n).trans hf).g (by simp; omega)
            have hX6 := HX5.out.grown (by simp [ruleZP]) ((RFr.draws w5 b n).trans hf).g (by simp; omega)
            exact ⟨he, (RFr.draws _ _ _).trans hf, hA6.c 0 _ rfl, hA6.c 1 _ rfl, hA6.c 2 _ rfl, hA6.c 3 _ rfl, hX6.c 0 _ rfl, hX6.c 1 _ rfl, hX6.c 2 _ rfl, hX6.c 3 _ rfl, hX6.f 0 _ rfl, hX6.f 1 _ rfl, hX6.f 2 _ rfl, hX6.f 3 _ rfl⟩
          go_wp2_with fail
          go_region_law (first | (go_simp; go_at_call 121; refine (HWT.out _ ⟨0, rfl⟩).mono ?_; rintro e w6 ⟨rfl, HP6, m0, m1, m2, m3, n0, n1, n2, n3, o0, o1, o2, o3⟩) | (go_simp; go_at_call 121; refine (HWT.out _ ⟨1, rfl⟩).mono ?_; rintro e w6 ⟨rfl, HP6, m0, m1, m2, m3, n0, n1, n2, n3, o0, o1, o2, o3⟩))
          all_goals
            go_simp
            go_wp2
            refine bodyPost_ret (v := .tuple #[.agg #[.string nm, .slice va na vc, .int .i64 (a.place : Nat), .slice ba np bc], errV L T M 2 q3]) (by simp [results, Tryz.results90, go_sem, n0, n1, n2, n3]) rfl ⟨?_, ?_⟩
            · rw [HT2.out]; exact ⟨_, _, _, _, _, _, _, _, rfl⟩
            · exact fr_new (fr_new (fr_new (fr_new (fr_both HG5.out HP6.out.g) (Nat.le_refl _) _ _) (Nat.le_refl _) _ _) (Nat.le_refl _) _ _) (Nat.le_refl _) _ _
        | some q4 =>
          have HT2 : Hid (RES = .ok (⟨a, ps⟩, q4)) := HT5.out
          have HWT : Hid (∀ wx : World, (∃ n, wx = w5.drewN n) → Calls Tryz.prog 121 #[.pointer (some ⟨b, 0, none⟩), .string { data := #[46] }] wx fun e w' => e = .returned (.nilIface) ∧ Hid (Rd w' b s (q4 : Nat) ∧ RFr w5 w' b) ∧ w'.cell? ⟨A, 0, none⟩ = some (.string nm) ∧ w'.cell? ⟨A, 1, none⟩ = some (.slice va na vc) ∧ w'.cell? ⟨A, 2, none⟩ = some (.int .i64 (a.place : Nat)) ∧ w'.cell? ⟨A, 3, none⟩ = some (.slice ba np bc) ∧ w'.cell? ⟨w.heap.size, 0, none⟩ = some (.string { data := #[] }) ∧ w'.cell? ⟨w.heap.size, 1, none⟩ = some (.slice none 0 0) ∧ w'.cell? ⟨w.heap.size, 2, none⟩ = some (.int .i64 0) ∧ w'.cell? ⟨w.heap.size, 3, none⟩ = some (.slice none 0 0) ∧ w'.frozen? ⟨w.heap.size, 0, none⟩ = false ∧ w'.frozen? ⟨w.heap.size, 1, none⟩ = false ∧ w'.frozen? ⟨w.heap.size, 2, none⟩ = false ∧ w'.frozen? ⟨w.heap.size, 3, none⟩ = false) := by
            rintro wx ⟨n, rfl⟩
            refine (pwant_any b s (str [46]) q3 L T M _ (HR5.out.drewN n) (HE5.out.drewN n) hb hq3 hs).mono ?_
            rintro e w6 ⟨he, hf⟩
            rw [data_str, HS3.out] at he
            have hA6 := HA5.out.grown (by simp) ((RFr.draws w5 b n).trans hf).g (by simp; omega)
            have hX6 := HX5.out.grown (by simp [ruleZP]) ((RFr.draws w5 b n).trans hf).g (by simp; omega)
            exact ⟨he.1, ⟨he.2, (RFr.draws _ _ _).trans hf⟩, hA6.c 0 _ rfl, hA6.c 1 _ rfl, hA6.c 2 _ rfl, hA6.c 3 _ rfl, hX6.c 0 _ rfl, hX6.c 1 _ rfl, hX6.c 2 _ rfl, hX6.c 3 _ rfl, hX6.f 0 _ rfl, hX6.f 1 _ rfl, hX6.f 2 _ rfl, hX6.f 3 _ rfl⟩
          go_wp2_with fail
          go_region_law (first | (go_simp; go_at_call 121; refine (HWT.out _ ⟨0, rfl⟩).mono ?_; rintro e w6 ⟨rfl, HP6, m0, m1, m2, m3, n0, n1, n2, n3, o0, o1, o2, o3⟩) | (go_simp; go_at_call 121; refine (HWT.out _ ⟨1, rfl⟩).mono ?_; rintro e w6 ⟨rfl, HP6, m0, m1, m2, m3, n0, n1, n2, n3, o0, o1, o2, o3⟩))
          all_goals
            go_simp
            go_wp2
            refine bodyPost_ret (v := .tuple #[.agg #[.string nm, .slice va na vc, .int .i64 (a.place : Nat), .slice ba np bc], .nilIface]) (by simp [results, Tryz.results90, go_sem, n0, n1, n2, n3]) rfl ⟨?_, ?_⟩
            · rw [HT2.out]
              refine ⟨.slice va na vc, .slice ba np bc, vs, by rw [HNM.out], ?_, ?_, ?_⟩
              · rw [HNA.out]
                refine own_lower (own_other (own_other (own_other (own_other (own_far HO5.out HP6.out.2.g ?_) (Nat.lt_succ_self _) _ _) (Nat.lt_succ_self _) _ _) (Nat.lt_succ_self _) _ _) (Nat.lt_succ_self _) _ _) (by omega)
                intro g hg
                have := (own_blk HO5.out hg).1
                simp; omega
              · refine PartsAt.lower (PartsAt.setR (PartsAt.setR (PartsAt.setR (PartsAt.setR (HP5.out.kept HP6.out.2.g (fun g hg => by cases hg; omega)) _ _) _ _) _ _) _ _) (Nat.le_succ _)
              · exact HP6.out.1.far (by rw [Below.heap_setCell _ _ _ _ hbX, Below.heap_setCell _ _ _ _ hbX, Below.heap_setCell _ _ _ _ hbX, Below.heap_setCell _ _ _ _ hbX])
            · exact fr_new (fr_new (fr_new (fr_new (fr_both HG5.out HP6.out.2.g) (Nat.le_refl _) _ _) (Nat.le_refl _) _ _) (Nat.le_refl _) _ _) (Nat.le_refl _) _ _
end Go.Proofs.YtgllfcoafgphbaaGreatDoor
