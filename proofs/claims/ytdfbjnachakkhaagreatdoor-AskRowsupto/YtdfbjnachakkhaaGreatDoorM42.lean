import Derived.Test.YtdfbjnachakkhaaGreatDoorM41
namespace Go.Proofs.YtdfbjnachakkhaaGreatDoor
open Go.ChangeShapes Go.WideShapes Go.ChangeAt Go.RowKit
set_option linter.unusedVariables false
/-- a query from a place on -/
def queryP (l : List UInt8) (p : Nat) : Except PErr (List PPart) := match partsF l p with
  | .error e => .error e
  | .ok (ps, q) => match signF l [46] q with
    | none => .error (2, q)
    | some r => if r = l.length then .ok ps else .error (2, r)
def QueryP (L T M : Addr) (base : Nat) (r : Except PErr (List PPart)) (en : Ending) (w' : World) : Prop := match r with
  | .error (e, x) => en = .returned (.tuple #[.slice none 0 0, errV L T M e x])
  | .ok ps => ∃ v vs, en = .returned (.tuple #[v, .nilIface]) ∧ PartsAt 65 67 base w' v ps vs
theorem parts_le (s : ByteArray) : ∀ (n p : Nat) (xs : List PPart) (q : Nat), p ≤ s.size → listF (atPartB s.data.toList) (partF s.data.toList) (signF s.data.toList [44]) n p = .ok (xs, q) → q ≤ s.size := by
  intro n
  induction n with
  | zero => intro p xs q hp h; unfold listF at h; split at h <;> cases h
  | succ n ih =>
    intro p xs q hp h
    unfold listF at h
    split at h
    · cases ht : partF s.data.toList p with
      | error e => rw [ht] at h; cases h
      | ok tq =>
        obtain ⟨t, q1⟩ := tq
        rw [ht] at h
        have hq1 := partF_le s p hp t q1 ht
        simp only [] at h
        cases hs : signF s.data.toList [44] q1 with
        | none => rw [hs] at h; cases h; exact hq1
        | some r =>
          rw [hs] at h
          simp only [] at h
          have hr := signF_le s [44] q1 r hs (by simp)
          cases hl : listF (atPartB s.data.toList) (partF s.data.toList) (signF s.data.toList [44]) n r with
          | error e => rw [hl] at h; cases h
          | ok v =>
            obtain ⟨ys, r2⟩ := v
            rw [hl] at h
            cases h
            exact ih r ys q hr hl
    · cases h
set_option maxRecDepth 100000 in
set_option maxHeartbeats 4000000 in
theorem pquery_any (b : Nat) (s : ByteArray) (p : Nat) (L T M : Addr) (w : World) (h : Rd w b s p) (hE : Errs w L T M) (hb : gTop ≤ b) (hp : p ≤ s.size) (hs : s.size ≤ 1073741824) :
    Calls Tryz.prog 23 #[.pointer (some ⟨b, 0, none⟩)] w fun en w' => QueryP L T M w.heap.size (queryP s.data.toList p) en w' ∧ w.grownBy w' (some b) := by
  have hbw := h.lt
  have hl0 : s.data.toList.length = s.size := by simp
  have HL := hide (pparts_any b s p L T M w h hE hb hp hs)
  have HE := hide hE
  clear h hE
  obtain ⟨Q, HQ⟩ : ∃ Q, Hid (queryP s.data.toList p = Q) := ⟨_, (rfl : _ = _)⟩
  rw [HQ.out]
  unfold queryP at HQ
  rw [hl0] at HQ
  clear hl0
  obtain ⟨F, HF⟩ : ∃ F, Hid (partsF s.data.toList p = F) := ⟨_, (rfl : _ = _)⟩
  rw [HF.out] at HL HQ
  go_enter Tryz.func23, Tryz.ntmps23
  go_wp2_with fail
  refine HL.out.mono ?_
  rintro e w1 ⟨hl, HFR⟩
  have HG1 := hide HFR
  have HE1 : Hid (Errs w1 L T M) := HE.out.grown HFR hb
  clear HFR HL HE
  cases F with
  | error er =>
    obtain ⟨ec, x⟩ := er
    have hl' : e = .returned (.tuple #[.slice none 0 0, errV L T M ec x]) := hl
    subst hl'
    have HQ2 : Hid (.error (ec, x) = Q) := HQ.out
    unfold errV
    go_wp2
    go_ret2
    rw [← HQ2.out]
    exact ⟨rfl, HG1.out⟩
  | ok v =>
    obtain ⟨ps, q⟩ := v
    obtain ⟨v, vs, rfl, hpa, hrd⟩ := hl
    have hq := parts_le s 12 p ps q hp HF.out
    obtain ⟨va, vc, hv⟩ := own_form hpa.own
    subst hv
    have HP1 := hide hpa
    have HR1 := hide hrd
    obtain ⟨np, HNP⟩ : ∃ np, Hid (ps.length = np) := ⟨_, (rfl : _ = _)⟩
    rw [HNP.out] at HP1 ⊢
    clear hpa hrd
    go_wp2_with fail
    refine (pwant_any b s (str [46]) q L T M _ HR1.out HE1.out hb hq hs).mono ?_
    rintro e w2 ⟨he, hf⟩
    rw [data_str] at he
    have HG2 : Hid (w.grownBy w2 (some b)) := fr_both HG1.out hf.g
    have HE2 : Hid (Errs w2 L T M) := HE1.out.grown hf.g hb
    have HP2 : Hid (PartsAt 65 67 w.heap.size w2 (.slice va np vc) ps vs) := HP1.out.kept hf.g (fun g hg => by cases hg; omega)
    clear hf HG1 HE1 HP1 HR1
    obtain ⟨S, HS⟩ : ∃ S, Hid (signF s.data.toList [46] q = S) := ⟨_, (rfl : _ = _)⟩
    rw [HS.out] at he
    have HQ0 : Hid ((match signF s.data.toList [46] q with
        | none => .error (2, q)
        | some r => if r = s.size then .ok ps else .error (2, r) : Except PErr (List PPart)) = Q) := HQ.out
    rw [HS.out] at HQ0
    clear HQ
    cases S with
    | none =>
      have he' : e = .returned (errV L T M 2 q) := he
      subst he'
      have HQ2 : Hid (.error (2, q) = Q) := HQ0.out
      unfold errV
      go_wp2
      go_ret2
      rw [← HQ2.out]
      exact ⟨rfl, HG2.out⟩
    | some r =>
      obtain ⟨rfl, hrd⟩ := he
      have HR2 := hide hrd
      have hr := signF_le s [46] q r HS.out (by simp)
      clear hrd
      have HQ2 : Hid ((if r = s.size then .ok ps else .error (2, r)) = Q) := HQ0.out
      clear HQ0
      go_wp2_with fail
      refine (pleft_any b s r _ HR2.out).mono ?_
      rintro e w3 ⟨rfl, n3, rfl⟩
      have HG3 : Hid (w.grownBy (w2.drewN n3) (some b)) := fr_both HG2.out (fr_draws _ _ _)
      have HE3 : Hid (Errs (w2.drewN n3) L T M) := HE2.out.drewN _
      have HR3 : Hid (Rd (w2.drewN n3) b s r) := HR2.out.drewN _
      have HP3 : Hid (PartsAt 65 67 w.heap.size (w2.drewN n3) (.slice va np vc) ps vs) := HP2.out.kept (fr_draws _ _ none) (fun g hg => by cases hg)
      generalize w2.drewN n3 = w3 at *
      clear HG2 HE2 HR2 HP2
      by_cases hrs : r = s.size
      · rw [if_pos hrs] at HQ2
        rw [show decide (r = s.size) = true from by simp [hrs]]
        clear hrs
        go_wp2
        go_ret2
        rw [← HQ2.out]
        exact ⟨⟨.slice va np vc, vs, rfl, HP3.out⟩, HG3.out⟩
      · rw [if_neg hrs] at HQ2
        rw [show decide (r = s.size) = false from by simp [hrs]]
        clear hrs
        have g1 := HE3.out.gt
        have HFL : Hid (∀ wx : World, (∃ n, wx = w3.drewN n) → Calls Tryz.prog 44 #[.pointer (some ⟨b, 0, none⟩), .iface 338 (.pointer (some T))] wx fun e w' => e = .returned (.iface 115 (.agg #[.iface 338 (.pointer (some T)), .int .i64 (r : Nat)])) ∧ Hid (w.grownBy w' (some b)) ∧ w'.cell? ⟨1, 0, none⟩ = some (.iface 338 (.pointer (some T)))) := by
          rintro wx ⟨n, rfl⟩
          refine (pfail_any b s r T _ (HR3.out.drewN n)).mono ?_
          rintro e w2 ⟨rfl, rfl⟩
          exact ⟨rfl, fr_both HG3.out (fr_draws _ _ _), g1⟩
        go_wp2_with fail
        go_region_held3 (fun w' => w'.cell? ⟨1, 0, none⟩ = some (.iface 338 (.pointer (some T)))) (go_keep) (first | (go_at_call 44; refine (HFL.out _ ⟨_, rfl⟩).mono ?_; rintro e w9 ⟨rfl, HG9, k9⟩))
        all_goals go_wp2
        all_goals go_ret2
        all_goals rw [← HQ2.out]
        all_goals exact ⟨rfl, HG9.out⟩
set_option maxRecDepth 100000 in
set_option maxHeartbeats 1000000 in
theorem pnewLexer_any (s : ByteArray) (w : World) (hs : s.size ≤ 1073741824) :
    Calls Tryz.prog 40 #[.string s] w fun en w' => en = .returned (.agg #[.string s, .int .i64 (skipTo s.data.toList 0 : Nat)]) ∧ w.grownBy w' none := by
  go_enter Tryz.func40, Tryz.ntmps40
  go_wp2_with fail
  generalize hw0 : World.alloc (World.alloc _ _) _ = w0
  have HX0 : Hid (Box w0 w.heap.size [.string { data := #[] }, .int .i64 0]) := by rw [← hw0]; exact (Box.new _ _ _).grown (by simp) (fr_alloc _ _ none) (by simp)
  have HR0 : Hid (Rd w0 (w.heap.size + 1) s (0 : Nat)) := by
    rw [← hw0]
    have hbx := Box.at (w.alloc (.cells #[.string { data := #[] }, .int .i64 0] 107)) (w.heap.size + 1) [.string s, .int .i64 0] 107 (by simp)
    exact ⟨hbx.c 0 _ rfl, hbx.c 1 _ rfl, hbx.f 1 _ rfl⟩
  have HN0 : Hid (w.grownBy w0 none) := by rw [← hw0]; exact fr_both (fr_alloc _ _ _) (fr_alloc _ _ _)
  clear hw0
  refine (pmove_any (w.heap.size + 1) s 0 0 _ HR0.out (Nat.zero_le _) hs).mono ?_
  rintro e w1 ⟨rfl, hr, hf⟩
  have HX1 : Hid (Box w1 w.heap.size [.string { data := #[] }, .int .i64 0]) := HX0.out.grown (by simp) hf.g (by simp)
  have HR1 := hide hr
  have HN1 : Hid (w.grownBy w1 none) := fr_trans HN0.out hf.g (fun g hg => Or.inr (by cases hg; omega))
  clear hr hf HX0 HR0 HN0
  obtain ⟨c0, c1, f1⟩ := HR1.out
  rw [Nat.zero_add] at c1
  have x0 := HX1.out.c 0 _ rfl
  have x1 := HX1.out.c 1 _ rfl
  have y0 := HX1.out.f 0 _ rfl
  have y1 := HX1.out.f 1 _ rfl
  go_wp2
  refine bodyPost_ret (v := .agg #[.string s, .int .i64 (skipTo s.data.toList 0 : Nat)]) (by simp [results, Tryz.results40, go_sem, x0, x1]) rfl ⟨rfl, ?_⟩
  exact fr_new (fr_new HN1.out (Nat.le_refl _) _ _) (Nat.le_refl _) _ _
end Go.Proofs.YtdfbjnachakkhaaGreatDoor
