import Derived.Test.YtgllfcoafgphbaaGreatDoorM27
import Derived.Test.YtgllfcoafgphbaaGreatDoorM18
/-
  The document's Checked, walked.
-/
namespace Go.Proofs.YtgllfcoafgphbaaGreatDoor
open Go.ChangeShapes Go.WideShapes Go.ChangeAt Go.RowKit
set_option linter.unusedVariables false
theorem parse_err0 (s : ByteArray) (e x : Nat) (h : parseF s.data.toList = .error (e, x)) : e ≠ 0 := by
  rw [← readRules_is] at h
  unfold readRulesS at h
  split at h
  · cases h; decide
  · simp only [] at h
    split at h
    · cases h
    · rename_i hn
      cases h; exact hn
theorem grown_fresh {w w' : World} (h : Below w.heap.size w w') : w.grownBy w' none := ⟨h.os, h.tape, h.output, h.size, fun k hk _ => h.block k hk⟩
theorem checkF_ok {l : List UInt8} {rs : List PRule} (h : parseF l = .ok rs) : checkF l = followR rs := by unfold checkF; rw [h]
set_option maxRecDepth 100000 in
set_option maxHeartbeats 4000000 in
theorem rchecked_any (s : ByteArray) (w : World) :
    Calls Tryz.prog 9 #[.string s] w fun en w' => RulesR 45 47 43 w.heap.size (checkF s.data.toList) en w' ∧ w.grownBy w' none := by
  have HRD : Hid (Calls Tryz.prog 18 #[.string s] w fun en w' => RulesR 45 47 43 w.heap.size (parseF s.data.toList) en w' ∧ w.grownBy w' none) := by
    have := readRules_any s w
    rw [readRules_is] at this
    refine this.mono ?_
    rintro e w' ⟨hq, hb⟩
    exact ⟨hq, grown_fresh hb⟩
  obtain ⟨Q, HQ⟩ : ∃ Q, Hid (parseF s.data.toList = Q) := ⟨_, (rfl : _ = _)⟩
  rw [HQ.out] at HRD
  obtain ⟨T, HT⟩ : ∃ T, Hid (checkF s.data.toList = T) := ⟨_, (rfl : _ = _)⟩
  rw [HT.out]
  go_enter Tryz.func9, Tryz.ntmps9
  go_wp2_with fail
  refine HRD.out.mono ?_
  rintro e w1 ⟨hq, hg⟩
  have HG1 := hide hg
  clear hg HRD
  cases Q with
  | error er =>
    obtain ⟨ec, x⟩ := er
    have hq' : e = .returned (.tuple #[.slice none 0 0, .int .i64 (ec : Nat), .int .i64 (x : Nat)]) := hq
    subst hq'
    have hne : (((ec : Nat) : Int) != 0) = true := by
      rw [bne_iff_ne]
      have := parse_err0 s ec x HQ.out
      omega
    have HR : Hid (T = .error (ec, x)) := by show _ = _; rw [← HT.out]; unfold checkF; rw [HQ.out]
    clear hq
    go_wp2
    go_ret3
    rw [HR.out]
    exact ⟨rfl, HG1.out⟩
  | ok rs =>
    obtain ⟨v, hs, bs2, rfl, hra⟩ := hq
    have HRA := hide hra
    obtain ⟨va, vc, hv⟩ := own_form hra.own
    subst hv
    clear hra
    have hwf := parseF_wf _ _ HQ.out
    have H200 := hide hwf.1
    have HWF := hide hwf.2
    clear hwf
    have HFR : Hid (T = followR rs) := by show _ = _; rw [← HT.out]; exact checkF_ok HQ.out
    have HCA : Hid (Calls Tryz.prog 19 #[.slice va rs.length vc] w1 fun e w' => e = .returned (.int .i64 (arityI (arityF rs))) ∧ w1.grownBy w' none) := rwrongArity_any rs _ hs bs2 w.heap.size w1 HRA.out H200.out HWF.out
    have HCS : Hid (∀ w', w1.grownBy w' none → Calls Tryz.prog 20 #[.slice va rs.length vc] w' fun e w'' => e = .returned (.int .i64 (looseI (safeF rs))) ∧ w'.grownBy w'' none) := fun w' hg => runsafe_any rs _ hs bs2 w.heap.size w' (HRA.out.kept hg (fun g e => by cases e)) H200.out HWF.out
    have HCR : Hid (∀ w', w1.grownBy w' none → Calls Tryz.prog 21 #[.slice va rs.length vc] w' fun e w'' => e = .returned (.int .i64 (ringI (ringF rs))) ∧ w'.grownBy w'' none) := fun w' hg => rringed_any rs _ hs bs2 w.heap.size w' (HRA.out.kept hg (fun g e => by cases e)) H200.out HWF.out
    obtain ⟨o1, HO1⟩ : ∃ o, Hid (arityF rs = o) := ⟨_, (rfl : _ = _)⟩
    obtain ⟨o2, HO2⟩ : ∃ o, Hid (safeF rs = o) := ⟨_, (rfl : _ = _)⟩
    obtain ⟨o3, HO3⟩ : ∃ o, Hid (ringF rs = o) := ⟨_, (rfl : _ = _)⟩
    rw [HO1.out] at HCA
    rw [HO2.out] at HCS
    rw [HO3.out] at HCR
    obtain ⟨N, HN⟩ : ∃ N, Hid (rs.length = N) := ⟨_, (rfl : _ = _)⟩
    rw [HN.out] at HCA HCS HCR ⊢
    go_wp2_with fail
    refine HCA.out.mono ?_
    rintro e w2 ⟨rfl, hg2⟩
    have HG2 := hide hg2
    clear hg2 HCA
    cases o1 with
    | some a =>
      have HR : Hid (T = .error (9, a.place)) := by show _ = _; rw [HFR.out]; unfold followR; rw [HO1.out]
      rw [show arityI (some a) = ((a.place : Nat) : Int) from rfl]
      generalize a.place = pl at *
      go_wp2
      go_ret3
      rw [HR.out]
      exact ⟨rfl, fr_both HG1.out HG2.out⟩
    | none =>
      rw [show arityI none = -1 from rfl]
      go_wp2_with fail
      refine (HCS.out _ HG2.out).mono ?_
      rintro e w3 ⟨rfl, hg3⟩
      have HG3 := hide (fr_both HG2.out hg3)
      clear hg3 HCS
      cases o2 with
      | some a =>
        have HR : Hid (T = .error (10, a.place)) := by show _ = _; rw [HFR.out]; unfold followR; rw [HO1.out, HO2.out]
        rw [show looseI (some a) = ((a.place : Nat) : Int) from rfl]
        generalize a.place = pl at *
        go_wp2
        go_ret3
        rw [HR.out]
        exact ⟨rfl, fr_both HG1.out HG3.out⟩
      | none =>
        rw [show looseI none = -1 from rfl]
        go_wp2_with fail
        refine (HCR.out _ HG3.out).mono ?_
        rintro e w4 ⟨rfl, hg4⟩
        have HG4 := hide (fr_both HG3.out hg4)
        clear hg4 HCR
        cases o3 with
        | some a =>
          have HR : Hid (T = .error (11, a.atom.place)) := by show _ = _; rw [HFR.out]; unfold followR; rw [HO1.out, HO2.out, HO3.out]
          rw [show ringI (some a) = ((a.atom.place : Nat) : Int) from rfl]
          generalize a.atom.place = pl at *
          go_wp2
          go_ret3
          rw [HR.out]
          exact ⟨rfl, fr_both HG1.out HG4.out⟩
        | none =>
          have HR : Hid (T = .ok rs) := by show _ = _; rw [HFR.out]; exact followR_is HO1.out HO2.out HO3.out
          rw [show ringI none = -1 from rfl]
          go_wp2
          go_ret3
          rw [HR.out]
          refine ⟨⟨_, hs, bs2, rfl, ?_⟩, fr_both HG1.out HG4.out⟩
          have h := HRA.out.kept HG4.out (fun g e => by cases e)
          rw [HN.out] at h
          exact h
end Go.Proofs.YtgllfcoafgphbaaGreatDoor

/-
  The program's parser: atom.
-/
namespace Go.Proofs.YtgllfcoafgphbaaGreatDoor
open Go.ChangeShapes Go.WideShapes Go.ChangeAt Go.RowKit
set_option linter.unusedVariables false
def AtomP (L T M : Addr) (base b : Nat) (s : ByteArray) (r : Except PErr (PAtom × Nat)) (en : Ending) (w' : World) : Prop := match r with
  | .error (e, x) => ∃ nm va n c pl, en = .returned (.tuple #[.agg #[.string nm, .slice va n c, .int .i64 pl], errV L T M e x])
  | .ok (a, q) => ∃ v, en = .returned (.tuple #[.agg #[.string (str a.name), v, .int .i64 (a.place : Nat)], .nilIface]) ∧ w'.ownsRow base 76 3 v a.args.length (termsV a.args) ∧ Rd w' b s (q : Nat)
def atomZ : List Value := [.string { data := #[] }, .slice none 0 0, .int .i64 0]
theorem args_le (s : ByteArray) : ∀ (n p : Nat) (xs : List PTerm) (q : Nat), p ≤ s.size → listF (atTermB s.data.toList) (termF s.data.toList) (signF s.data.toList [44]) n p = .ok (xs, q) → q ≤ s.size := by
  intro n
  induction n with
  | zero => intro p xs q hp h; unfold listF at h; split at h <;> cases h
  | succ n ih =>
    intro p xs q hp h
    unfold listF at h
    split at h
    · cases ht : termF s.data.toList p with
      | error e => rw [ht] at h; cases h
      | ok tq =>
        obtain ⟨t, q1⟩ := tq
        rw [ht] at h
        have hq1 := termF_le s p hp t q1 ht
        simp only [] at h
        cases hs : signF s.data.toList [44] q1 with
        | none => rw [hs] at h; cases h; exact hq1
        | some r =>
          rw [hs] at h
          simp only [] at h
          have hr := signF_le s [44] q1 r hs (by simp)
          cases hl : listF (atTermB s.data.toList) (termF s.data.toList) (signF s.data.toList [44]) n r with
          | error e => rw [hl] at h; cases h
          | ok v =>
            obtain ⟨ys, r2⟩ := v
            rw [hl] at h
            cases h
            exact ih r ys q hr hl
    · cases h
set_option maxRecDepth 100000 in
set_option maxHeartbeats 4000000 in
theorem patom_any (b : Nat) (s : ByteArray) (p : Nat) (L T M : Addr) (w : World) (h : Rd w b s p) (hE : Errs w L T M) (hb : gTop ≤ b) (hp : p ≤ s.size) (hs : s.size ≤ 1073741824) :
    Calls Tryz.prog 118 #[.pointer (some ⟨b, 0, none⟩)] w fun en w' => AtomP L T M w.heap.size b s (atomF s.data.toList p) en w' ∧ w.grownBy w' (some b) := by
  have hbw := h.lt
  have HR := hide h
  have HE := hide hE
  have hbX : ¬ b = w.heap.size := by omega
  clear h hE
  go_enter Tryz.func118, Tryz.ntmps118
  go_wp2_with fail
  generalize hw0 : World.alloc _ _ = w0
  have HX0 : Hid (Box w0 w.heap.size atomZ) := by rw [← hw0]; exact Box.new _ _ _
  have HR0 : Hid (Rd w0 b s p) := by rw [← hw0]; exact HR.out.far (Below.heap_alloc _ _ _ hbw)
  have HE0 : Hid (Errs w0 L T M) := by rw [← hw0]; exact HE.out.grown (fr_alloc _ _ (some b)) hb
  have HG0 : Hid (w.grownBy w0 (some b)) := by rw [← hw0]; exact fr_alloc _ _ _
  clear hw0 HR HE
  refine (patName_any b s p _ HR0.out hp hs).mono ?_
  rintro e w1 ⟨rfl, n, rfl⟩
  have HX1 : Hid (Box (w0.drewN n) w.heap.size atomZ) := HX0.out.grown (by simp [atomZ]) (fr_draws _ _ none) (by simp)
  have HR1 : Hid (Rd (w0.drewN n) b s p) := HR0.out.drewN _
  have HE1 : Hid (Errs (w0.drewN n) L T M) := HE0.out.drewN _
  have HG1 : Hid (w.grownBy (w0.drewN n) (some b)) := fr_both HG0.out (fr_draws _ _ _)
  generalize w0.drewN n = w1 at *
  clear HX0 HR0 HE0 HG0
  have hX1 : w.heap.size < w1.heap.size := HX1.out.lt (by simp [atomZ])
  obtain ⟨B, HB⟩ : ∃ B, Hid (atNameB s.data.toList p = B) := ⟨_, (rfl : _ = _)⟩
  rw [HB.out]
  cases B with
  | false =>
    have x0 := HX1.out.c 0 _ rfl
    have x1 := HX1.out.c 1 _ rfl
    have x2 := HX1.out.c 2 _ rfl
    have y0 := HX1.out.f 0 _ rfl
    have y1 := HX1.out.f 1 _ rfl
    have y2 := HX1.out.f 2 _ rfl
    obtain ⟨c0, c1, f1⟩ := HR1.out
    have g1 := HE1.out.gt
    have HT : Hid (atomF s.data.toList p = .error (2, p)) := by show _ = _; rw [atomF_is, HB.out]; rfl
    have HFL : Hid (∀ wx : World, Rd wx b s p → Calls Tryz.prog 115 #[.pointer (some ⟨b, 0, none⟩), .iface 250 (.pointer (some T))] wx fun e w' => e = .returned (.iface 158 (.agg #[.iface 250 (.pointer (some T)), .int .i64 (p : Nat)])) ∧ wx = w') := fun wx h => pfail_any b s p T wx h
    have HRD : Hid (∀ n, Rd (w1.drewN n) b s p) := fun n => HR1.out.drewN n
    go_wp2_with fail
    go_region_law (first | (go_simp; go_at_call 115; refine (HFL.out _ (HRD.out 0)).mono ?_; rintro e w3 ⟨rfl, rfl⟩) | (go_simp; go_at_call 115; refine (HFL.out _ (HRD.out 1)).mono ?_; rintro e w3 ⟨rfl, rfl⟩))
    all_goals
      go_simp
      go_wp2
      refine bodyPost_ret (v := .tuple #[.agg #[.string { data := #[] }, .slice none 0 0, .int .i64 0], .iface 158 (.agg #[.iface 250 (.pointer (some T)), .int .i64 (p : Nat)])]) (by simp [results, Tryz.results118, go_sem, x0, x1, x2]) rfl ⟨?_, ?_⟩
      · rw [HT.out]; exact ⟨_, _, _, _, _, rfl⟩
      · exact fr_new (fr_new (fr_new (fr_both HG1.out (fr_draws _ _ _)) (Nat.le_refl _) _ _) (Nat.le_refl _) _ _) (Nat.le_refl _) _ _
  | true =>
    obtain ⟨W, HWW⟩ : ∃ W, Hid (str (wordAt s.data.toList p) = W) := ⟨_, (rfl : _ = _)⟩
    have HWS : Hid (W.size = (wordAt s.data.toList p).length) := by show _ = _; rw [← HWW.out, str_size]
    have hle : p + W.size ≤ s.size := by rw [HWS.out]; exact word_le s p hp
    have HT : Hid (atomF s.data.toList p = restF s.data.toList (wordAt s.data.toList p) p (skipTo s.data.toList (p + W.size))) := by show _ = _; rw [atomF_is, HB.out, HWS.out]; rfl
    have HWD : Hid (∀ wx : World, (∃ n, wx = w1.drewN n) → Calls Tryz.prog 117 #[.pointer (some ⟨b, 0, none⟩)] wx fun e w' => e = .returned (.string W) ∧ Hid (∃ m, w' = w1.drewN m) ∧ w'.cell? ⟨b, 1, none⟩ = some (.int .i64 (p : Nat)) ∧ w'.heap.size = w1.heap.size ∧ (w'.alloc (.cells #[.string { data := #[] }, .slice none 0 0, .int .i64 0] 70)).cell? ⟨b, 1, none⟩ = some (.int .i64 (p : Nat)) ∧
        (w'.alloc (.cells #[.string { data := #[] }, .slice none 0 0, .int .i64 0] 70)).cell? ⟨w1.heap.size, 0, none⟩ = some (.string { data := #[] }) ∧ (w'.alloc (.cells #[.string { data := #[] }, .slice none 0 0, .int .i64 0] 70)).cell? ⟨w1.heap.size, 1, none⟩ = some (.slice none 0 0) ∧ (w'.alloc (.cells #[.string { data := #[] }, .slice none 0 0, .int .i64 0] 70)).cell? ⟨w1.heap.size, 2, none⟩ = some (.int .i64 0) ∧
        (w'.alloc (.cells #[.string { data := #[] }, .slice none 0 0, .int .i64 0] 70)).frozen? ⟨w1.heap.size, 0, none⟩ = false ∧ (w'.alloc (.cells #[.string { data := #[] }, .slice none 0 0, .int .i64 0] 70)).frozen? ⟨w1.heap.size, 1, none⟩ = false ∧ (w'.alloc (.cells #[.string { data := #[] }, .slice none 0 0, .int .i64 0] 70)).frozen? ⟨w1.heap.size, 2, none⟩ = false) := by
      rintro wx ⟨n, rfl⟩
      refine (pwordAt_any b s p _ (HR1.out.drewN n) hp hs).mono ?_
      rintro e w2 ⟨rfl, m, rfl⟩
      have hbx := Box.at ((w1.drewN n).drewN m) w1.heap.size [.string { data := #[] }, .slice none 0 0, .int .i64 0] 70 rfl
      exact ⟨by rw [HWW.out], ⟨n + m, by rw [World.drewN_drewN]⟩, HR1.out.c1, rfl, (World.cell?_of_block (a := ⟨b, 1, none⟩) (Below.heap_alloc _ _ _ (by show b < w1.heap.size; omega))).trans HR1.out.c1, hbx.c 0 _ rfl, hbx.c 1 _ rfl, hbx.c 2 _ rfl, hbx.f 0 _ rfl, hbx.f 1 _ rfl, hbx.f 2 _ rfl⟩
    have HWD2 : Hid (∀ wx : World, (∃ n, wx = (w1.alloc (.cells #[.string { data := #[] }, .slice none 0 0, .int .i64 0] 70)).drewN n) → Calls Tryz.prog 117 #[.pointer (some ⟨b, 0, none⟩)] wx fun e w' => e = .returned (.string W) ∧ Hid (∃ m, w' = (w1.alloc (.cells #[.string { data := #[] }, .slice none 0 0, .int .i64 0] 70)).drewN m) ∧ w'.cell? ⟨b, 1, none⟩ = some (.int .i64 (p : Nat)) ∧
        w'.cell? ⟨w1.heap.size, 0, none⟩ = some (.string { data := #[] }) ∧ w'.cell? ⟨w1.heap.size, 1, none⟩ = some (.slice none 0 0) ∧ w'.cell? ⟨w1.heap.size, 2, none⟩ = some (.int .i64 0) ∧
        w'.frozen? ⟨w1.heap.size, 0, none⟩ = false ∧ w'.frozen? ⟨w1.heap.size, 1, none⟩ = false ∧ w'.frozen? ⟨w1.heap.size, 2, none⟩ = false) := by
      rintro wx ⟨n, rfl⟩
      have hbx := Box.new w1 [.string { data := #[] }, .slice none 0 0, .int .i64 0] 70
      have hrd : Rd (w1.alloc (.cells #[.string { data := #[] }, .slice none 0 0, .int .i64 0] 70)) b s p := HR1.out.far (Below.heap_alloc _ _ _ (by omega))
      refine (pwordAt_any b s p _ (hrd.drewN n) hp hs).mono ?_
      rintro e w2 ⟨rfl, m, rfl⟩
      exact ⟨by rw [HWW.out], ⟨n + m, by rw [World.drewN_drewN]⟩, hrd.c1, hbx.c 0 _ rfl, hbx.c 1 _ rfl, hbx.c 2 _ rfl, hbx.f 0 _ rfl, hbx.f 1 _ rfl, hbx.f 2 _ rfl⟩
    have c1 := HR1.out.c1
    have hb1 : b < w1.heap.size := by omega
    have c1b : (w1.alloc (.cells #[.string { data := #[] }, .slice none 0 0, .int .i64 0] 70)).cell? ⟨b, 1, none⟩ = some (.int .i64 (p : Nat)) := (World.cell?_of_block (a := ⟨b, 1, none⟩) (Below.heap_alloc _ _ _ hb1)).trans c1
    go_upto_region 3 with fail
    go_cut [4] (fun a wc => Hid (a = .pointer (some ⟨w1.heap.size, 0, none⟩)) ∧ Hid (Box wc w1.heap.size [.string W, .slice none 0 0, .int .i64 (p : Nat)]) ∧ Hid (w1.grownBy wc none))
    case first =>
      go_region_law (first | (go_simp; go_at_call 117; refine (HWD.out _ ⟨0, rfl⟩).mono ?_; rintro e w3 ⟨rfl, HW3, kb, kz, kb2, k0, k1, k2, z0, z1, z2⟩) | (go_simp; go_at_call 117; refine (HWD.out _ ⟨1, rfl⟩).mono ?_; rintro e w3 ⟨rfl, HW3, kb, kz, kb2, k0, k1, k2, z0, z1, z2⟩) | (go_simp; go_at_call 117; refine (HWD2.out _ ⟨1, rfl⟩).mono ?_; rintro e w3 ⟨rfl, HW3, kb, k0, k1, k2, z0, z1, z2⟩))
      all_goals go_wp2_with fail
      all_goals go_meet
      all_goals first
        | (have kzz := kz
           refine ⟨rfl, Box.at _ _ _ _ kzz.symm, fr_both ?_ (fr_alloc _ _ _)⟩
           obtain ⟨m, e⟩ := HW3.out
           rw [e]; exact fr_draws _ _ _)
        | (have hb3 : Box w3 w1.heap.size [.string { data := #[] }, .slice none 0 0, .int .i64 0] := by
             obtain ⟨m, e⟩ := HW3.out
             rw [e]; exact (Box.new _ _ _).grown (by simp) (fr_draws _ _ none) (by simp)
           have hg3 : w1.grownBy w3 none := by
             obtain ⟨m, e⟩ := HW3.out
             rw [e]; exact fr_both (fr_alloc _ _ _) (fr_draws _ _ _)
           exact ⟨rfl, ((hb3.set 0 _ (.string W) rfl).set 1 _ (.slice none 0 0) rfl).set 2 _ (.int .i64 (p : Nat)) rfl, fr_new (fr_new (fr_new hg3 (Nat.le_refl _) _ _) (Nat.le_refl _) _ _) (Nat.le_refl _) _ _⟩)
    case rest =>
      obtain ⟨HAE, HAc, HNc⟩ := hcut
      have hae := HAE.out
      subst hae
      have HXc : Hid (Box wc w.heap.size atomZ) := HX1.out.grown (by simp [atomZ]) HNc.out (by simp)
      have HRc : Hid (Rd wc b s p) := HR1.out.other HNc.out (by simp)
      have HEc : Hid (Errs wc L T M) := HE1.out.grown (fr_both (fr_refl w1 (some b)) ⟨HNc.out.os, HNc.out.tape, HNc.out.output, HNc.out.size, fun k hk _ => HNc.out.block k hk (by simp)⟩) hb
      have HGc : Hid (w.grownBy wc (some b)) := fr_trans HG1.out HNc.out (fun g hg => by cases hg)
      obtain ⟨A, HA⟩ : ∃ A, Hid (w1.heap.size = A) := ⟨_, (rfl : _ = _)⟩
      have hAw : w.heap.size < A := by rw [← HA.out]; exact hX1
      rw [HA.out] at HAc ⊢
      have hAc : A < wc.heap.size := HAc.out.lt (by simp)
      have hbA : ¬ b = A := by omega
      clear HX1 HR1 HE1 HG1 HNc HWD HWD2 c1 c1b hb1
      obtain ⟨q1, HQ1⟩ : ∃ q1, Hid (skipTo s.data.toList (p + W.size) = q1) := ⟨_, (rfl : _ = _)⟩
      have hq1 : q1 ≤ s.size := by rw [← HQ1.out]; exact skip_le s _ hle
      rw [HQ1.out] at HT
      have a0 := HAc.out.c 0 _ rfl
      have HMV : Hid (∀ wx : World, (∃ n, wx = wc.drewN n) → Calls Tryz.prog 114 #[.pointer (some ⟨b, 0, none⟩), .int .i64 (W.size : Nat)] wx fun e w' => e = .returned (.tuple #[]) ∧ Hid (Rd w' b s (q1 : Nat)) ∧ Hid (RFr wc w' b) ∧ w'.cell? ⟨A, 0, none⟩ = some (.string W)) := by
        rintro wx ⟨n, rfl⟩
        refine (pmove_any b s p W.size _ (HRc.out.drewN n) hle hs).mono ?_
        rintro e w2 ⟨rfl, hr, hf⟩
        rw [HQ1.out] at hr
        exact ⟨rfl, hr, (RFr.draws _ _ _).trans hf, (World.cell?_of_block (a := ⟨A, 0, none⟩) (hf.block A (fun e => hbA e.symm))).trans a0⟩
      go_wp2_with fail
      go_region_held3 (fun w' => w'.cell? ⟨A, 0, none⟩ = some (.string W)) (go_keep) (first | (go_at_call 114; refine (HMV.out _ ⟨_, rfl⟩).mono ?_; rintro e w2 ⟨rfl, HR2, HF2, k2⟩))
      have HX2 : Hid (Box w2 w.heap.size atomZ) := HXc.out.grown (by simp [atomZ]) HF2.out.g (by simp; omega)
      have HA2 : Hid (Box w2 A [.string W, .slice none 0 0, .int .i64 (p : Nat)]) := HAc.out.grown (by simp) HF2.out.g (by simp; omega)
      have HE2 : Hid (Errs w2 L T M) := HEc.out.grown HF2.out.g hb
      have HG2 : Hid (w.grownBy w2 (some b)) := fr_both HGc.out HF2.out.g
      clear HXc HAc HEc HGc HF2 HMV HRc k2 a0
      go_wp2_with fail
      refine (ptake_any b s (str [40]) q1 _ HR2.out hq1 hs).mono ?_
      rintro e w3 ⟨rfl, hrd, HFR⟩
      rw [data_str] at hrd ⊢
      have HX3 : Hid (Box w3 w.heap.size atomZ) := HX2.out.grown (by simp [atomZ]) HFR.g (by simp; omega)
      have HA3 : Hid (Box w3 A [.string W, .slice none 0 0, .int .i64 (p : Nat)]) := HA2.out.grown (by simp) HFR.g (by simp; omega)
      have HE3 : Hid (Errs w3 L T M) := HE2.out.grown HFR.g hb
      have HG3 : Hid (w.grownBy w3 (some b)) := fr_both HG2.out HFR.g
      obtain ⟨S, HS⟩ : ∃ S, Hid (signF s.data.toList [40] q1 = S) := ⟨_, (rfl : _ = _)⟩
      rw [HS.out] at hrd ⊢
      have HR3 := hide hrd
      clear hrd HFR HX2 HA2 HE2 HG2 HR2
      cases S with
      | none =>
        have HT2 : Hid (atomF s.data.toList p = .ok (⟨wordAt s.data.toList p, [], p⟩, q1)) := by show _ = _; rw [HT.out]; unfold restF; rw [HS.out]
        have x0 := HX3.out.c 0 _ rfl
        have x1 := HX3.out.c 1 _ rfl
        have x2 := HX3.out.c 2 _ rfl
        have y0 := HX3.out.f 0 _ rfl
        have y1 := HX3.out.f 1 _ rfl
        have y2 := HX3.out.f 2 _ rfl
        have a0 := HA3.out.c 0 _ rfl
        have a1 := HA3.out.c 1 _ rfl
        have a2 := HA3.out.c 2 _ rfl
        go_wp2
        refine bodyPost_ret (v := .tuple #[.agg #[.string W, .slice none 0 0, .int .i64 (p : Nat)], .nilIface]) (by simp [results, Tryz.results118, go_sem, x0, x1, x2]) rfl ⟨?_, ?_⟩
        · rw [HT2.out]
          refine ⟨.slice none 0 0, by rw [HWW.out], World.ownsRow_nil _ _ _ _, ?_⟩
          exact HR3.out.far (by rw [Below.heap_setCell _ _ _ _ hbX, Below.heap_setCell _ _ _ _ hbX, Below.heap_setCell _ _ _ _ hbX])
        · exact fr_new (fr_new (fr_new HG3.out (Nat.le_refl _) _ _) (Nat.le_refl _) _ _) (Nat.le_refl _) _ _
      | some q2 =>
        have hq2 := signF_le s [40] q1 q2 HS.out (by simp)
        have HR3b : Hid (Rd w3 b s (q2 : Nat)) := HR3.out
        have hw3 : w.heap.size < w3.heap.size := HX3.out.lt (by simp [atomZ])
        clear HR3
        go_wp2_with fail
        refine (plistT_any b s q2 8 L T M _ HR3b.out HE3.out hb hq2 hs (by omega)).mono ?_
        rintro e w4 ⟨hl, HFR⟩
        have HX4 : Hid (Box w4 w.heap.size atomZ) := HX3.out.grown (by simp [atomZ]) HFR (by simp; omega)
        have HA4 : Hid (Box w4 A [.string W, .slice none 0 0, .int .i64 (p : Nat)]) := HA3.out.grown (by simp) HFR (by simp; omega)
        have HE4 : Hid (Errs w4 L T M) := HE3.out.grown HFR hb
        have HG4 : Hid (w.grownBy w4 (some b)) := fr_both HG3.out HFR
        have hA3 : A < w3.heap.size := HA3.out.lt (by simp)
        clear HFR HX3 HA3 HE3 HG3 HR3b
        obtain ⟨F, HF⟩ : ∃ F, Hid (listF (atTermB s.data.toList) (termF s.data.toList) (signF s.data.toList [44]) 8 q2 = F) := ⟨_, (rfl : _ = _)⟩
        rw [HF.out] at hl
        have x0 := HX4.out.c 0 _ rfl
        have x1 := HX4.out.c 1 _ rfl
        have x2 := HX4.out.c 2 _ rfl
        have y0 := HX4.out.f 0 _ rfl
        have y1 := HX4.out.f 1 _ rfl
        have y2 := HX4.out.f 2 _ rfl
        have a0 := HA4.out.c 0 _ rfl
        have a1 := HA4.out.c 1 _ rfl
        have a2 := HA4.out.c 2 _ rfl
        have b1 := HA4.out.f 1 _ rfl
        cases F with
        | error er =>
          obtain ⟨ec, x⟩ := er
          have hl' : e = .returned (.tuple #[.slice none 0 0, errV L T M ec x]) := hl
          subst hl'
          have HT2 : Hid (atomF s.data.toList p = .error (ec, x)) := by show _ = _; rw [HT.out]; unfold restF; rw [HS.out]; simp only [HF.out]
          unfold errV
          go_wp2
          refine bodyPost_ret (v := .tuple #[.agg #[.string { data := #[] }, .slice none 0 0, .int .i64 0], .iface 158 (.agg #[.iface 250 (.pointer (some (errA L T M ec))), .int .i64 (x : Nat)])]) (by simp [results, Tryz.results118, go_sem, x0, x1, x2]) rfl ⟨?_, ?_⟩
          · rw [HT2.out]; exact ⟨_, _, _, _, _, rfl⟩
          · exact fr_new (fr_new (fr_new HG4.out (Nat.le_refl _) _ _) (Nat.le_refl _) _ _) (Nat.le_refl _) _ _
        | ok lv =>
          obtain ⟨xs, q3⟩ := lv
          obtain ⟨v, rfl, hown, hrd⟩ := hl
          obtain ⟨va, vc, rfl⟩ := own_form hown
          have hq3 := args_le s 8 q2 xs q3 hq2 HF.out
          have HO4 := hide hown
          have HR4 := hide hrd
          clear hown hrd
          go_upto_region 11 with fail
          generalize hw5 : World.setCell _ _ _ = w5
          have HA5 : Hid (Box w5 A [.string W, .slice va xs.length vc, .int .i64 (p : Nat)]) := by rw [← hw5]; exact HA4.out.set 1 _ _ rfl
          have HX5 : Hid (Box w5 w.heap.size atomZ) := by rw [← hw5]; exact HX4.out.grown (by simp [atomZ]) (fr_set _ _ _ _) (by simp; omega)
          have HR5 : Hid (Rd w5 b s q3) := by rw [← hw5]; exact HR4.out.other (fr_set _ _ _ _) (by simp; omega)
          have HE5 : Hid (Errs w5 L T M) := by rw [← hw5]; exact HE4.out.grown (fr_set _ _ _ _) (by omega)
          have HG5 : Hid (w.grownBy w5 (some b)) := by rw [← hw5]; exact fr_new HG4.out (by omega) _ _
          have HO5 : Hid (w5.ownsRow w3.heap.size 76 3 (.slice va xs.length vc) xs.length (termsV xs)) := by rw [← hw5]; exact own_other HO4.out hA3 _ _
          clear hw5 HA4 HX4 HR4 HE4 HG4 HO4 x0 x1 x2 y0 y1 y2 a0 a1 a2 b1
          have x0 := HX5.out.c 0 _ rfl
          have x1 := HX5.out.c 1 _ rfl
          have x2 := HX5.out.c 2 _ rfl
          have y0 := HX5.out.f 0 _ rfl
          have y1 := HX5.out.f 1 _ rfl
          have y2 := HX5.out.f 2 _ rfl
          have a0 := HA5.out.c 0 _ rfl
          have a1 := HA5.out.c 1 _ rfl
          have a2 := HA5.out.c 2 _ rfl
          obtain ⟨S3, HS3⟩ : ∃ S3, Hid (signF s.data.toList [41] q3 = S3) := ⟨_, (rfl : _ = _)⟩
          cases S3 with
          | none =>
            have HT2 : Hid (atomF s.data.toList p = .error (2, q3)) := by show _ = _; rw [HT.out]; unfold restF; rw [HS.out]; simp only [HF.out, HS3.out]
            have HWT : Hid (∀ wx : World, (∃ n, wx = w5.drewN n) → Calls Tryz.prog 121 #[.pointer (some ⟨b, 0, none⟩), .string { data := #[41] }] wx fun e w' => e = .returned (errV L T M 2 q3) ∧ Hid (RFr w5 w' b) ∧ w'.cell? ⟨A, 0, none⟩ = some (.string W) ∧ w'.cell? ⟨A, 1, none⟩ = some (.slice va xs.length vc) ∧ w'.cell? ⟨A, 2, none⟩ = some (.int .i64 (p : Nat)) ∧ w'.cell? ⟨w.heap.size, 0, none⟩ = some (.string { data := #[] }) ∧ w'.cell? ⟨w.heap.size, 1, none⟩ = some (.slice none 0 0) ∧ w'.cell? ⟨w.heap.size, 2, none⟩ = some (.int .i64 0) ∧ w'.frozen? ⟨w.heap.size, 0, none⟩ = false ∧ w'.frozen? ⟨w.heap.size, 1, none⟩ = false ∧ w'.frozen? ⟨w.heap.size, 2, none⟩ = false) := by
              rintro wx ⟨n, rfl⟩
              refine (pwant_any b s (str [41]) q3 L T M _ (HR5.out.drewN n) (HE5.out.drewN n) hb hq3 hs).mono ?_
              rintro e w6 ⟨he, hf⟩
              rw [data_str, HS3.out] at he
              have hA6 := HA5.out.grown (by simp) ((RFr.draws w5 b n).trans hf).g (by simp; omega)
              have hX6 := HX5.out.grown (by simp [atomZ]) ((RFr.draws w5 b n).trans hf).g (by simp; omega)
              exact ⟨he, (RFr.draws _ _ _).trans hf, hA6.c 0 _ rfl, hA6.c 1 _ rfl, hA6.c 2 _ rfl, hX6.c 0 _ rfl, hX6.c 1 _ rfl, hX6.c 2 _ rfl, hX6.f 0 _ rfl, hX6.f 1 _ rfl, hX6.f 2 _ rfl⟩
            go_wp2_with fail
            go_region_law (first | (go_simp; go_at_call 121; refine (HWT.out _ ⟨0, rfl⟩).mono ?_; rintro e w6 ⟨rfl, HP6, m0, m1, m2, n0, n1, n2, o0, o1, o2⟩) | (go_simp; go_at_call 121; refine (HWT.out _ ⟨1, rfl⟩).mono ?_; rintro e w6 ⟨rfl, HP6, m0, m1, m2, n0, n1, n2, o0, o1, o2⟩))
            all_goals
              go_simp
              go_wp2
              refine bodyPost_ret (v := .tuple #[.agg #[.string W, .slice va xs.length vc, .int .i64 (p : Nat)], errV L T M 2 q3]) (by simp [results, Tryz.results118, go_sem, n0, n1, n2]) rfl ⟨?_, ?_⟩
              · rw [HT2.out]; exact ⟨_, _, _, _, _, rfl⟩
              · exact fr_new (fr_new (fr_new (fr_both HG5.out HP6.out.g) (Nat.le_refl _) _ _) (Nat.le_refl _) _ _) (Nat.le_refl _) _ _
          | some q4 =>
            have HT2 : Hid (atomF s.data.toList p = .ok (⟨wordAt s.data.toList p, xs, p⟩, q4)) := by show _ = _; rw [HT.out]; unfold restF; rw [HS.out]; simp only [HF.out, HS3.out]
            have HWT : Hid (∀ wx : World, (∃ n, wx = w5.drewN n) → Calls Tryz.prog 121 #[.pointer (some ⟨b, 0, none⟩), .string { data := #[41] }] wx fun e w' => e = .returned (.nilIface) ∧ Hid (Rd w' b s (q4 : Nat) ∧ RFr w5 w' b) ∧ w'.cell? ⟨A, 0, none⟩ = some (.string W) ∧ w'.cell? ⟨A, 1, none⟩ = some (.slice va xs.length vc) ∧ w'.cell? ⟨A, 2, none⟩ = some (.int .i64 (p : Nat)) ∧ w'.cell? ⟨w.heap.size, 0, none⟩ = some (.string { data := #[] }) ∧ w'.cell? ⟨w.heap.size, 1, none⟩ = some (.slice none 0 0) ∧ w'.cell? ⟨w.heap.size, 2, none⟩ = some (.int .i64 0) ∧ w'.frozen? ⟨w.heap.size, 0, none⟩ = false ∧ w'.frozen? ⟨w.heap.size, 1, none⟩ = false ∧ w'.frozen? ⟨w.heap.size, 2, none⟩ = false) := by
              rintro wx ⟨n, rfl⟩
              refine (pwant_any b s (str [41]) q3 L T M _ (HR5.out.drewN n) (HE5.out.drewN n) hb hq3 hs).mono ?_
              rintro e w6 ⟨he, hf⟩
              rw [data_str, HS3.out] at he
              have hA6 := HA5.out.grown (by simp) ((RFr.draws w5 b n).trans hf).g (by simp; omega)
              have hX6 := HX5.out.grown (by simp [atomZ]) ((RFr.draws w5 b n).trans hf).g (by simp; omega)
              exact ⟨he.1, ⟨he.2, (RFr.draws _ _ _).trans hf⟩, hA6.c 0 _ rfl, hA6.c 1 _ rfl, hA6.c 2 _ rfl, hX6.c 0 _ rfl, hX6.c 1 _ rfl, hX6.c 2 _ rfl, hX6.f 0 _ rfl, hX6.f 1 _ rfl, hX6.f 2 _ rfl⟩
            go_wp2_with fail
            go_region_law (first | (go_simp; go_at_call 121; refine (HWT.out _ ⟨0, rfl⟩).mono ?_; rintro e w6 ⟨rfl, HP6, m0, m1, m2, n0, n1, n2, o0, o1, o2⟩) | (go_simp; go_at_call 121; refine (HWT.out _ ⟨1, rfl⟩).mono ?_; rintro e w6 ⟨rfl, HP6, m0, m1, m2, n0, n1, n2, o0, o1, o2⟩))
            all_goals
              go_simp
              go_wp2
              refine bodyPost_ret (v := .tuple #[.agg #[.string W, .slice va xs.length vc, .int .i64 (p : Nat)], .nilIface]) (by simp [results, Tryz.results118, go_sem, n0, n1, n2]) rfl ⟨?_, ?_⟩
              · rw [HT2.out]
                refine ⟨_, by rw [HWW.out], ?_, ?_⟩
                · refine own_lower (own_other (own_other (own_other (own_far HO5.out HP6.out.2.g ?_) hw3 _ _) hw3 _ _) hw3 _ _) (by omega)
                  intro g hg
                  have := (own_blk HO5.out hg).1
                  simp; omega
                · exact HP6.out.1.far (by rw [Below.heap_setCell _ _ _ _ hbX, Below.heap_setCell _ _ _ _ hbX, Below.heap_setCell _ _ _ _ hbX])
              · exact fr_new (fr_new (fr_new (fr_both HG5.out HP6.out.2.g) (Nat.le_refl _) _ _) (Nat.le_refl _) _ _) (Nat.le_refl _) _ _
end Go.Proofs.YtgllfcoafgphbaaGreatDoor
