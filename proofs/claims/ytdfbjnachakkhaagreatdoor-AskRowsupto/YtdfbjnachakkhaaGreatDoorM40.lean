import Derived.Test.YtdfbjnachakkhaaGreatDoorM35
namespace Go.Proofs.YtdfbjnachakkhaaGreatDoor
open Go.ChangeShapes Go.WideShapes Go.ChangeAt Go.RowKit
set_option linter.unusedVariables false
def AtomP (L T M : Addr) (base b : Nat) (s : ByteArray) (r : Except PErr (PAtom × Nat)) (en : Ending) (w' : World) : Prop := match r with
  | .error (e, x) => ∃ nm va n c pl, en = .returned (.tuple #[.agg #[.string nm, .slice va n c, .int .i64 pl], errV L T M e x])
  | .ok (a, q) => ∃ v, en = .returned (.tuple #[.agg #[.string (str a.name), v, .int .i64 (a.place : Nat)], .nilIface]) ∧ w'.ownsRow base 65 3 v a.args.length (termsV a.args) ∧ Rd w' b s (q : Nat)
def atomZ : List Value := [.string { data := #[] }, .slice none 0 0, .int .i64 0]
theorem args_le (s : ByteArray) : ∀ (n p : Nat) (xs : List PTerm) (q : Nat), p ≤ s.size → listF (atTermB s.data.toList) (termF s.data.toList) (signF s.data.toList [44]) n p = .ok (xs, q) → q ≤ s.size := by
  intro n
  induction n with
  | zero => intro p xs q hp h; unfold listF at h; split at h <;> cases h
  | succ n ih =>
    intro p xs q hp h
    unfold listF at h
    split at h
    · cases ht : termF s.data.toList p with
      | error e => rw [ht] at h; cases h
      | ok tq =>
        obtain ⟨t, q1⟩ := tq
        rw [ht] at h
        have hq1 := termF_le s p hp t q1 ht
        simp only [] at h
        cases hs : signF s.data.toList [44] q1 with
        | none => rw [hs] at h; cases h; exact hq1
        | some r =>
          rw [hs] at h
          simp only [] at h
          have hr := signF_le s [44] q1 r hs (by simp)
          cases hl : listF (atTermB s.data.toList) (termF s.data.toList) (signF s.data.toList [44]) n r with
          | error e => rw [hl] at h; cases h
          | ok v =>
            obtain ⟨ys, r2⟩ := v
            rw [hl] at h
            cases h
            exact ih r ys q hr hl
    · cases h
set_option maxRecDepth 100000 in
set_option maxHeartbeats 4000000 in
theorem patom_any (b : Nat) (s : ByteArray) (p : Nat) (L T M : Addr) (w : World) (h : Rd w b s p) (hE : Errs w L T M) (hb : gTop ≤ b) (hp : p ≤ s.size) (hs : s.size ≤ 1073741824) :
    Calls Tryz.prog 119 #[.pointer (some ⟨b, 0, none⟩)] w fun en w' => AtomP L T M w.heap.size b s (atomF s.data.toList p) en w' ∧ w.grownBy w' (some b) := by
  have hbw := h.lt
  have HR := hide h
  have HE := hide hE
  have hbX : ¬ b = w.heap.size := by omega
  clear h hE
  go_enter Tryz.func119, Tryz.ntmps119
  go_wp2_with fail
  generalize hw0 : World.alloc _ _ = w0
  have HX0 : Hid (Box w0 w.heap.size atomZ) := by rw [← hw0]; exact Box.new _ _ _
  have HR0 : Hid (Rd w0 b s p) := by rw [← hw0]; exact HR.out.far (Below.heap_alloc _ _ _ hbw)
  have HE0 : Hid (Errs w0 L T M) := by rw [← hw0]; exact HE.out.grown (fr_alloc _ _ (some b)) hb
  have HG0 : Hid (w.grownBy w0 (some b)) := by rw [← hw0]; exact fr_alloc _ _ _
  clear hw0 HR HE
  refine (patName_any b s p _ HR0.out hp hs).mono ?_
  rintro e w1 ⟨rfl, n, rfl⟩
  have HX1 : Hid (Box (w0.drewN n) w.heap.size atomZ) := HX0.out.grown (by simp [atomZ]) (fr_draws _ _ none) (by simp)
  have HR1 : Hid (Rd (w0.drewN n) b s p) := HR0.out.drewN _
  have HE1 : Hid (Errs (w0.drewN n) L T M) := HE0.out.drewN _
  have HG1 : Hid (w.grownBy (w0.drewN n) (some b)) := fr_both HG0.out (fr_draws _ _ _)
  generalize w0.drewN n = w1 at *
  clear HX0 HR0 HE0 HG0
  have hX1 : w.heap.size < w1.heap.size := HX1.out.lt (by simp [atomZ])
  obtain ⟨B, HB⟩ : ∃ B, Hid (atNameB s.data.toList p = B) := ⟨_, (rfl : _ = _)⟩
  rw [HB.out]
  cases B with
  | false =>
    have x0 := HX1.out.c 0 _ rfl
    have x1 := HX1.out.c 1 _ rfl
    have x2 := HX1.out.c 2 _ rfl
    have y0 := HX1.out.f 0 _ rfl
    have y1 := HX1.out.f 1 _ rfl
    have y2 := HX1.out.f 2 _ rfl
    obtain ⟨c0, c1, f1⟩ := HR1.out
    have g1 := HE1.out.gt
    have HT : Hid (atomF s.data.toList p = .error (2, p)) := by show _ = _; rw [atomF_is, HB.out]; rfl
    have HFL : Hid (∀ wx : World, Rd wx b s p → Calls Tryz.prog 44 #[.pointer (some ⟨b, 0, none⟩), .iface 338 (.pointer (some T))] wx fun e w' => e = .returned (.iface 115 (.agg #[.iface 338 (.pointer (some T)), .int .i64 (p : Nat)])) ∧ wx = w') := fun wx h => pfail_any b s p T wx h
    have HRD : Hid (∀ n, Rd (w1.drewN n) b s p) := fun n => HR1.out.drewN n
    go_wp2_with fail
    go_region_law (first | (go_simp; go_at_call 44; refine (HFL.out _ (HRD.out 0)).mono ?_; rintro e w3 ⟨rfl, rfl⟩) | (go_simp; go_at_call 44; refine (HFL.out _ (HRD.out 1)).mono ?_; rintro e w3 ⟨rfl, rfl⟩))
    all_goals
      go_simp
      go_wp2
      refine bodyPost_ret (v := .tuple #[.agg #[.string { data := #[] }, .slice none 0 0, .int .i64 0], .iface 115 (.agg #[.iface 338 (.pointer (some T)), .int .i64 (p : Nat)])]) (by simp [results, Tryz.results119, go_sem, x0, x1, x2]) rfl ⟨?_, ?_⟩
      · rw [HT.out]; exact ⟨_, _, _, _, _, rfl⟩
      · exact fr_new (fr_new (fr_new (fr_both HG1.out (fr_draws _ _ _)) (Nat.le_refl _) _ _) (Nat.le_refl _) _ _) (Nat.le_refl _) _ _
  | true =>
    obtain ⟨W, HWW⟩ : ∃ W, Hid (str (wordAt s.data.toList p) = W) := ⟨_, (rfl : _ = _)⟩
    have HWS : Hid (W.size = (wordAt s.data.toList p).length) := by show _ = _; rw [← HWW.out, str_size]
    have hle : p + W.size ≤ s.size := by rw [HWS.out]; exact word_le s p hp
    have HT : Hid (atomF s.data.toList p = restF s.data.toList (wordAt s.data.toList p) p (skipTo s.data.toList (p + W.size))) := by show _ = _; rw [atomF_is, HB.out, HWS.out]; rfl
    have HWD : Hid (∀ wx : World, (∃ n, wx = w1.drewN n) → Calls Tryz.prog 117 #[.pointer (some ⟨b, 0, none⟩)] wx fun e w' => e = .returned (.string W) ∧ Hid (∃ m, w' = w1.drewN m) ∧ w'.cell? ⟨b, 1, none⟩ = some (.int .i64 (p : Nat)) ∧ w'.heap.size = w1.heap.size ∧ (w'.alloc (.cells #[.string { data := #[] }, .slice none 0 0, .int .i64 0] 63)).cell? ⟨b, 1, none⟩ = some (.int .i64 (p : Nat)) ∧
        (w'.alloc (.cells #[.string { data := #[] }, .slice none 0 0, .int .i64 0] 63)).cell? ⟨w1.heap.size, 0, none⟩ = some (.string { data := #[] }) ∧ (w'.alloc (.cells #[.string { data := #[] }, .slice none 0 0, .int .i64 0] 63)).cell? ⟨w1.heap.size, 1, none⟩ = some (.slice none 0 0) ∧ (w'.alloc (.cells #[.string { data := #[] }, .slice none 0 0, .int .i64 0] 63)).cell? ⟨w1.heap.size, 2, none⟩ = some (.int .i64 0) ∧
        (w'.alloc (.cells #[.string { data := #[] }, .slice none 0 0, .int .i64 0] 63)).frozen? ⟨w1.heap.size, 0, none⟩ = false ∧ (w'.alloc (.cells #[.string { data := #[] }, .slice none 0 0, .int .i64 0] 63)).frozen? ⟨w1.heap.size, 1, none⟩ = false ∧ (w'.alloc (.cells #[.string { data := #[] }, .slice none 0 0, .int .i64 0] 63)).frozen? ⟨w1.heap.size, 2, none⟩ = false) := by
      rintro wx ⟨n, rfl⟩
      refine (pwordAt_any b s p _ (HR1.out.drewN n) hp hs).mono ?_
      rintro e w2 ⟨rfl, m, rfl⟩
      have hbx := Box.at ((w1.drewN n).drewN m) w1.heap.size [.string { data := #[] }, .slice none 0 0, .int .i64 0] 63 rfl
      exact ⟨by rw [HWW.out], ⟨n + m, by rw [World.drewN_drewN]⟩, HR1.out.c1, rfl, (World.cell?_of_block (a := ⟨b, 1, none⟩) (Below.heap_alloc _ _ _ (by show b < w1.heap.size; omega))).trans HR1.out.c1, hbx.c 0 _ rfl, hbx.c 1 _ rfl, hbx.c 2 _ rfl, hbx.f 0 _ rfl, hbx.f 1 _ rfl, hbx.f 2 _ rfl⟩
    have HWD2 : Hid (∀ wx : World, (∃ n, wx = (w1.alloc (.cells #[.string { data := #[] }, .slice none 0 0, .int .i64 0] 63)).drewN n) → Calls Tryz.prog 117 #[.pointer (some ⟨b, 0, none⟩)] wx fun e w' => e = .returned (.string W) ∧ Hid (∃ m, w' = (w1.alloc (.cells #[.string { data := #[] }, .slice none 0 0, .int .i64 0] 63)).drewN m) ∧ w'.cell? ⟨b, 1, none⟩ = some (.int .i64 (p : Nat)) ∧
        w'.cell? ⟨w1.heap.size, 0, none⟩ = some (.string { data := #[] }) ∧ w'.cell? ⟨w1.heap.size, 1, none⟩ = some (.slice none 0 0) ∧ w'.cell? ⟨w1.heap.size, 2, none⟩ = some (.int .i64 0) ∧
        w'.frozen? ⟨w1.heap.size, 0, none⟩ = false ∧ w'.frozen? ⟨w1.heap.size, 1, none⟩ = false ∧ w'.frozen? ⟨w1.heap.size, 2, none⟩ = false) := by
      rintro wx ⟨n, rfl⟩
      have hbx := Box.new w1 [.string { data := #[] }, .slice none 0 0, .int .i64 0] 63
      have hrd : Rd (w1.alloc (.cells #[.string { data := #[] }, .slice none 0 0, .int .i64 0] 63)) b s p := HR1.out.far (Below.heap_alloc _ _ _ (by omega))
      refine (pwordAt_any b s p _ (hrd.drewN n) hp hs).mono ?_
      rintro e w2 ⟨rfl, m, rfl⟩
      exact ⟨by rw [HWW.out], ⟨n + m, by rw [World.drewN_drewN]⟩, hrd.c1, hbx.c 0 _ rfl, hbx.c 1 _ rfl, hbx.c 2 _ rfl, hbx.f 0 _ rfl, hbx.f 1 _ rfl, hbx.f 2 _ rfl⟩
    have c1 := HR1.out.c1
    have hb1 : b < w1.heap.size := by omega
    have c1b : (w1.alloc (.cells #[.string { data := #[] }, .slice none 0 0, .int .i64 0] 63)).cell? ⟨b, 1, none⟩ = some (.int .i64 (p : Nat)) := (World.cell?_of_block (a := ⟨b, 1, none⟩) (Below.heap_alloc _ _ _ hb1)).trans c1
    go_upto_region 3 with fail
    go_cut [4] (fun a wc => Hid (a = .pointer (some ⟨w1.heap.size, 0, none⟩)) ∧ Hid (Box wc w1.heap.size [.string W, .slice none 0 0, .int .i64 (p : Nat)]) ∧ Hid (w1.grownBy wc none))
    case first =>
      go_region_law (first | (go_simp; go_at_call 117; refine (HWD.out _ ⟨0, rfl⟩).mono ?_; rintro e w3 ⟨rfl, HW3, kb, kz, kb2, k0, k1, k2, z0, z1, z2⟩) | (go_simp; go_at_call 117; refine (HWD.out _ ⟨1, rfl⟩).mono ?_; rintro e w3 ⟨rfl, HW3, kb, kz, kb2, k0, k1, k2, z0, z1, z2⟩) | (go_simp; go_at_call 117; refine (HWD2.out _ ⟨1, rfl⟩).mono ?_; rintro e w3 ⟨rfl, HW3, kb, k0, k1, k2, z0, z1, z2⟩))
      all_goals go_wp2_with fail
      all_goals go_meet
      all_goals first
        | (have kzz := kz
           refine ⟨rfl, Box.at _ _ _ _ kzz.symm, fr_both ?_ (fr_alloc _ _ _)⟩
           obtain ⟨m, e⟩ := HW3.out
           rw [e]; exact fr_draws _ _ _)
        | (have hb3 : Box w3 w1.heap.size [.string { data := #[] }, .slice none 0 0, .int .i64 0] := by
             obtain ⟨m, e⟩ := HW3.out
             rw [e]; exact (Box.new _ _ _).grown (by simp) (fr_draws _ _ none) (by simp)
           have hg3 : w1.grownBy w3 none := by
             obtain ⟨m, e⟩ := HW3.out
             rw [e]; exact fr_both (fr_alloc _ _ _) (fr_draws _ _ _)
           exact ⟨rfl, ((hb3.set 0 _ (.string W) rfl).set 1 _ (.slice none 0 0) rfl).set 2 _ (.int .i64 (p : Nat)) rfl, fr_new (fr_new (fr_new hg3 (Nat.le_refl _) _ _) (Nat.le_refl _) _ _) (Nat.le_refl _) _ _⟩)
    case rest =>
      obtain ⟨HAE, HAc, HNc⟩ := hcut
      have hae := HAE.out
      subst hae
      have HXc : Hid (Box wc w.heap.size atomZ) := HX1.out.grown (by simp [atomZ]) HNc.out (by simp)
      have HRc : Hid (Rd wc b s p) := HR1.out.other HNc.out (by simp)
      have HEc : Hid (Errs wc L T M) := HE1.out.grown (fr_both (fr_refl w1 (some b)) ⟨HNc.out.os, HNc.out.tape, HNc.out.output, HNc.out.size, fun k hk _ => HNc.out.block k hk (by simp)⟩) hb
      have HGc : Hid (w.grownBy wc (some b)) := fr_trans HG1.out HNc.out (fun g hg => by cases hg)
      obtain ⟨A, HA⟩ : ∃ A, Hid (w1.heap.size = A) := ⟨_, (rfl : _ = _)⟩
      have hAw : w.heap.size < A := by rw [← HA.out]; exact hX1
      rw [HA.out] at HAc ⊢
      have hAc : A < wc.heap.size := HAc.out.lt (by simp)
      have hbA : ¬ b = A := by omega
      clear HX1 HR1 HE1 HG1 HNc HWD HWD2 c1 c1b hb1
      obtain ⟨q1, HQ1⟩ : ∃ q1, Hid (skipTo s.data.toList (p + W.size) = q1) := ⟨_, (rfl : _ = _)⟩
      have hq1 : q1 ≤ s.size := by rw [← HQ1.out]; exact skip_le s _ hle
      rw [HQ1.out] at HT
      have a0 := HAc.out.c 0 _ rfl
      have HMV : Hid (∀ wx : World, (∃ n, wx = wc.drewN n) → Calls Tryz.prog 78 #[.pointer (some ⟨b, 0, none⟩), .int .i64 (W.size : Nat)] wx fun e w' => e = .returned (.tuple #[]) ∧ Hid (Rd w' b s (q1 : Nat)) ∧ Hid (RFr wc w' b) ∧ w'.cell? ⟨A, 0, none⟩ = some (.string W)) := by
        rintro wx ⟨n, rfl⟩
        refine (pmove_any b s p W.size _ (HRc.out.drewN n) hle hs).mono ?_
        rintro e w2 ⟨rfl, hr, hf⟩
        rw [HQ1.out] at hr
        exact ⟨rfl, hr, (RFr.draws _ _ _).trans hf, (World.cell?_of_block (a := ⟨A, 0, none⟩) (hf.block A (fun e => hbA e.symm))).trans a0⟩
      go_wp2_with fail
      go_region_held3 (fun w' => w'.cell? ⟨A, 0, none⟩ = some (.string W)) (go_keep) (first | (go_at_call 78; refine (HMV.out _ ⟨_, rfl⟩).mono ?_; rintro e w2 ⟨rfl, HR2, HF2, k2⟩))
      have HX2 : Hid (Box w2 w.heap.size atomZ) := HXc.out.grown (by simp [atomZ]) HF2.out.g (by simp; omega)
      have HA2 : Hid (Box w2 A [.string W, .slice none 0 0, .int .i64 (p : Nat)]) := HAc.out.grown (by simp) HF2.out.g (by simp; omega)
      have HE2 : Hid (Errs w2 L T M) := HEc.out.grown HF2.out.g hb
      have HG2 : Hid (w.grownBy w2 (some b)) := fr_both HGc.out HF2.out.g
      clear HXc HAc HEc HGc HF2 HMV HRc k2 a0
      go_wp2_with fail
      refine (ptake_any b s (str [40]) q1 _ HR2.out hq1 hs).mono ?_
      rintro e w3 ⟨rfl, hrd, HFR⟩
      rw [data_str] at hrd ⊢
      have HX3 : Hid (Box w3 w.heap.size atomZ) := HX2.out.grown (by simp [atomZ]) HFR.g (by simp; omega)
      have HA3 : Hid (Box w3 A [.string W, .slice none 0 0, .int .i64 (p : Nat)]) := HA2.out.grown (by simp) HFR.g (by simp; omega)
      have HE3 : Hid (Errs w3 L T M) := HE2.out.grown HFR.g hb
      have HG3 : Hid (w.grownBy w3 (some b)) := fr_both HG2.out HFR.g
      obtain ⟨S, HS⟩ : ∃ S, Hid (signF s.data.toList [40] q1 = S) := ⟨_, (rfl : _ = _)⟩
      rw [HS.out] at hrd ⊢
      have HR3 := hide hrd
      clear hrd HFR HX2 HA2 HE2 HG2 HR2
      cases S with
      | none =>
        have HT2 : Hid (atomF s.data.toList p = .ok (⟨wordAt s.data.toList p, [], p⟩, q1)) := by show _ = _; rw [HT.out]; unfold restF; rw [HS.out]
        have x0 := HX3.out.c 0 _ rfl
        have x1 := HX3.out.c 1 _ rfl
        have x2 := HX3.out.c 2 _ rfl
        have y0 := HX3.out.f 0 _ rfl
        have y1 := HX3.out.f 1 _ rfl
        have y2 := HX3.out.f 2 _ rfl
        have a0 := HA3.out.c 0 _ rfl
        have a1 := HA3.out.c 1 _ rfl
        have a2 := HA3.out.c 2 _ rfl
        go_wp2
        refine bodyPost_ret (v := .tuple #[.agg #[.string W, .slice none 0 0, .int .i64 (p : Nat)], .nilIface]) (by simp [results, Tryz.results119, go_sem, x0, x1, x2]) rfl ⟨?_, ?_⟩
        · rw [HT2.out]
          refine ⟨.slice none 0 0, by rw [HWW.out], World.ownsRow_nil _ _ _ _, ?_⟩
          exact HR3.out.far (by rw [Below.heap_setCell _ _ _ _ hbX, Below.heap_setCell _ _ _ _ hbX, Below.heap_setCell _ _ _ _ hbX])
        · exact fr_new (fr_new (fr_new HG3.out (Nat.le_refl _) _ _) (Nat.le_refl _) _ _) (Nat.le_refl _) _ _
      | some q2 =>
        have hq2 := signF_le s [40] q1 q2 HS.out (by simp)
        have HR3b : Hid (Rd w3 b s (q2 : Nat)) := HR3.out
        have hw3 : w.heap.size < w3.heap.size := HX3.out.lt (by simp [atomZ])
        clear HR3
        go_wp2_with fail
        refine (plistT_any b s q2 8 L T M _ HR3b.out HE3.out hb hq2 hs (by omega)).mono ?_
        rintro e w4 ⟨hl, HFR⟩
        have HX4 : Hid (Box w4 w.heap.size atomZ) := HX3.out.grown (by simp [atomZ]) HFR (by simp; omega)
        have HA4 : Hid (Box w4 A [.string W, .slice none 0 0, .int .i64 (p : Nat)]) := HA3.out.grown (by simp) HFR (by simp; omega)
        have HE4 : Hid (Errs w4 L T M) := HE3.out.grown HFR hb
        have HG4 : Hid (w.grownBy w4 (some b)) := fr_both HG3.out HFR
        have hA3 : A < w3.heap.size := HA3.out.lt (by simp)
        clear HFR HX3 HA3 HE3 HG3 HR3b
        obtain ⟨F, HF⟩ : ∃ F, Hid (listF (atTermB s.data.toList) (termF s.data.toList) (signF s.data.toList [44]) 8 q2 = F) := ⟨_, (rfl : _ = _)⟩
        rw [HF.out] at hl
        have x0 := HX4.out.c 0 _ rfl
        have x1 := HX4.out.c 1 _ rfl
        have x2 := HX4.out.c 2 _ rfl
        have y0 := HX4.out.f 0 _ rfl
        have y1 := HX4.out.f 1 _ rfl
        have y2 := HX4.out.f 2 _ rfl
        have a0 := HA4.out.c 0 _ rfl
        have a1 := HA4.out.c 1 _ rfl
        have a2 := HA4.out.c 2 _ rfl
        have b1 := HA4.out.f 1 _ rfl
        cases F with
        | error er =>
          obtain ⟨ec, x⟩ := er
          have hl' : e = .returned (.tuple #[.slice none 0 0, errV L T M ec x]) := hl
          subst hl'
          have HT2 : Hid (atomF s.data.toList p = .error (ec, x)) := by show _ = _; rw [HT.out]; unfold restF; rw [HS.out]; simp only [HF.out]
          unfold errV
          go_wp2
          refine bodyPost_ret (v := .tuple #[.agg #[.string { data := #[] }, .slice none 0 0, .int .i64 0], .iface 115 (.agg #[.iface 338 (.pointer (some (errA L T M ec))), .int .i64 (x : Nat)])]) (by simp [results, Tryz.results119, go_sem, x0, x1, x2]) rfl ⟨?_, ?_⟩
          · rw [HT2.out]; exact ⟨_, _, _, _, _, rfl⟩
          · exact fr_new (fr_new (fr_new HG4.out (Nat.le_refl _) _ _) (Nat.le_refl _) _ _) (Nat.le_refl _) _ _
        | ok lv =>
          obtain ⟨xs, q3⟩ := lv
          obtain ⟨v, rfl, hown, hrd⟩ := hl
          obtain ⟨va, vc, rfl⟩ := own_form hown
          have hq3 := args_le s 8 q2 xs q3 hq2 HF.out
          have HO4 := hide hown
          have HR4 := hide hrd
          clear hown hrd
          go_upto_region 11 with fail
          generalize hw5 : World.setCell _ _ _ = w5
          have HA5 : Hid (Box w5 A [.string W, .slice va xs.length vc, .int .i64 (p : Nat)]) := by rw [← hw5]; exact HA4.out.set 1 _ _ rfl
          have HX5 : Hid (Box w5 w.heap.size atomZ) := by rw [← hw5]; exact HX4.out.grown (by simp [atomZ]) (fr_set _ _ _ _) (by simp; omega)
          have HR5 : Hid (Rd w5 b s q3) := by rw [← hw5]; exact HR4.out.other (fr_set _ _ _ _) (by simp; omega)
          have HE5 : Hid (Errs w5 L T M) := by rw [← hw5]; exact HE4.out.grown (fr_set _ _ _ _) (by omega)
          have HG5 : Hid (w.grownBy w5 (some b)) := by rw [← hw5]; exact fr_new HG4.out (by omega) _ _
          have HO5 : Hid (w5.ownsRow w3.heap.size 65 3 (.slice va xs.length vc) xs.length (termsV xs)) := by rw [← hw5]; exact own_other HO4.out hA3 _ _
          clear hw5 HA4 HX4 HR4 HE4 HG4 HO4 x0 x1 x2 y0 y1 y2 a0 a1 a2 b1
          have x0 := HX5.out.c 0 _ rfl
          have x1 := HX5.out.c 1 _ rfl
          have x2 := HX5.out.c 2 _ rfl
          have y0 := HX5.out.f 0 _ rfl
          have y1 := HX5.out.f 1 _ rfl
          have y2 := HX5.out.f 2 _ rfl
          have a0 := HA5.out.c 0 _ rfl
          have a1 := HA5.out.c 1 _ rfl
          have a2 := HA5.out.c 2 _ rfl
          obtain ⟨S3, HS3⟩ : ∃ S3, Hid (signF s.data.toList [41] q3 = S3) := ⟨_, (rfl : _ = _)⟩
          cases S3 with
          | none =>
            have HT2 : Hid (atomF s.data.toList p = .error (2, q3)) := by show _ = _; rw [HT.out]; unfold restF; rw [HS.out]; simp only [HF.out, HS3.out]
            have HWT : Hid (∀ wx : World, (∃ n, wx = w5.drewN n) → Calls Tryz.prog 42 #[.pointer (some ⟨b, 0, none⟩), .string { data := #[41] }] wx fun e w' => e = .returned (errV L T M 2 q3) ∧ Hid (RFr w5 w' b) ∧ w'.cell? ⟨A, 0, none⟩ = some (.string W) ∧ w'.cell? ⟨A, 1, none⟩ = some (.slice va xs.length vc) ∧ w'.cell? ⟨A, 2, none⟩ = some (.int .i64 (p : Nat)) ∧ w'.cell? ⟨w.heap.size, 0, none⟩ = some (.string { data := #[] }) ∧ w'.cell? ⟨w.heap.size, 1, none⟩ = some (.slice none 0 0) ∧ w'.cell? ⟨w.heap.size, 2, none⟩ = some (.int .i64 0) ∧ w'.frozen? ⟨w.heap.size, 0, none⟩ = false ∧ w'.frozen? ⟨w.heap.size, 1, none⟩ = false ∧ w'.frozen? ⟨w.heap.size, 2, none⟩ = false) := by
              rintro wx ⟨n, rfl⟩
              refine (pwant_any b s (str [41]) q3 L T M _ (HR5.out.drewN n) (HE5.out.drewN n) hb hq3 hs).mono ?_
              rintro e w6 ⟨he, hf⟩
              rw [data_str, HS3.out] at he
              have hA6 := HA5.out.grown (by simp) ((RFr.draws w5 b n).trans hf).g (by simp; omega)
              have hX6 := HX5.out.grown (by simp [atomZ]) ((RFr.draws w5 b n).trans hf).g (by simp; omega)
              exact ⟨he, (RFr.draws _ _ _).trans hf, hA6.c 0 _ rfl, hA6.c 1 _ rfl, hA6.c 2 _ rfl, hX6.c 0 _ rfl, hX6.c 1 _ rfl, hX6.c 2 _ rfl, hX6.f 0 _ rfl, hX6.f 1 _ rfl, hX6.f 2 _ rfl⟩
            go_wp2_with fail
            go_region_law (first | (go_simp; go_at_call 42; refine (HWT.out _ ⟨0, rfl⟩).mono ?_; rintro e w6 ⟨rfl, HP6, m0, m1, m2, n0, n1, n2, o0, o1, o2⟩) | (go_simp; go_at_call 42; refine (HWT.out _ ⟨1, rfl⟩).mono ?_; rintro e w6 ⟨rfl, HP6, m0, m1, m2, n0, n1, n2, o0, o1, o2⟩))
            all_goals
              go_simp
              go_wp2
              refine bodyPost_ret (v := .tuple #[.agg #[.string W, .slice va xs.length vc, .int .i64 (p : Nat)], errV L T M 2 q3]) (by simp [results, Tryz.results119, go_sem, n0, n1, n2]) rfl ⟨?_, ?_⟩
              · rw [HT2.out]; exact ⟨_, _, _, _, _, rfl⟩
              · exact fr_new (fr_new (fr_new (fr_both HG5.out HP6.out.g) (Nat.le_refl _) _ _) (Nat.le_refl _) _ _) (Nat.le_refl _) _ _
          | some q4 =>
            have HT2 : Hid (atomF s.data.toList p = .ok (⟨wordAt s.data.toList p, xs, p⟩, q4)) := by show _ = _; rw [HT.out]; unfold restF; rw [HS.out]; simp only [HF.out, HS3.out]
            have HWT : Hid (∀ wx : World, (∃ n, wx = w5.drewN n) → Calls Tryz.prog 42 #[.pointer (some ⟨b, 0, none⟩), .string { data := #[41] }] wx fun e w' => e = .returned (.nilIface) ∧ Hid (Rd w' b s (q4 : Nat) ∧ RFr w5 w' b) ∧ w'.cell? ⟨A, 0, none⟩ = some (.string W) ∧ w'.cell? ⟨A, 1, none⟩ = some (.slice va xs.length vc) ∧ w'.cell? ⟨A, 2, none⟩ = some (.int .i64 (p : Nat)) ∧ w'.cell? ⟨w.heap.size, 0, none⟩ = some (.string { data := #[] }) ∧ w'.cell? ⟨w.heap.size, 1, none⟩ = some (.slice none 0 0) ∧ w'.cell? ⟨w.heap.size, 2, none⟩ = some (.int .i64 0) ∧ w'.frozen? ⟨w.heap.size, 0, none⟩ = false ∧ w'.frozen? ⟨w.heap.size, 1, none⟩ = false ∧ w'.frozen? ⟨w.heap.size, 2, none⟩ = false) := by
              rintro wx ⟨n, rfl⟩
              refine (pwant_any b s (str [41]) q3 L T M _ (HR5.out.drewN n) (HE5.out.drewN n) hb hq3 hs).mono ?_
              rintro e w6 ⟨he, hf⟩
              rw [data_str, HS3.out] at he
              have hA6 := HA5.out.grown (by simp) ((RFr.draws w5 b n).trans hf).g (by simp; omega)
              have hX6 := HX5.out.grown (by simp [atomZ]) ((RFr.draws w5 b n).trans hf).g (by simp; omega)
              exact ⟨he.1, ⟨he.2, (RFr.draws _ _ _).trans hf⟩, hA6.c 0 _ rfl, hA6.c 1 _ rfl, hA6.c 2 _ rfl, hX6.c 0 _ rfl, hX6.c 1 _ rfl, hX6.c 2 _ rfl, hX6.f 0 _ rfl, hX6.f 1 _ rfl, hX6.f 2 _ rfl⟩
            go_wp2_with fail
            go_region_law (first | (go_simp; go_at_call 42; refine (HWT.out _ ⟨0, rfl⟩).mono ?_; rintro e w6 ⟨rfl, HP6, m0, m1, m2, n0, n1, n2, o0, o1, o2⟩) | (go_simp; go_at_call 42; refine (HWT.out _ ⟨1, rfl⟩).mono ?_; rintro e w6 ⟨rfl, HP6, m0, m1, m2, n0, n1, n2, o0, o1, o2⟩))
            all_goals
              go_simp
              go_wp2
              refine bodyPost_ret (v := .tuple #[.agg #[.string W, .slice va xs.length vc, .int .i64 (p : Nat)], .nilIface]) (by simp [results, Tryz.results119, go_sem, n0, n1, n2]) rfl ⟨?_, ?_⟩
              · rw [HT2.out]
                refine ⟨_, by rw [HWW.out], ?_, ?_⟩
                · refine own_lower (own_other (own_other (own_other (own_far HO5.out HP6.out.2.g ?_) hw3 _ _) hw3 _ _) hw3 _ _) (by omega)
                  intro g hg
                  have := (own_blk HO5.out hg).1
                  simp; omega
                · exact HP6.out.1.far (by rw [Below.heap_setCell _ _ _ _ hbX, Below.heap_setCell _ _ _ _ hbX, Below.heap_setCell _ _ _ _ hbX])
              · exact fr_new (fr_new (fr_new (fr_both HG5.out HP6.out.2.g) (Nat.le_refl _) _ _) (Nat.le_refl _) _ _) (Nat.le_refl _) _ _
end Go.Proofs.YtdfbjnachakkhaaGreatDoor

namespace Go.Proofs.YtdfbjnachakkhaaGreatDoor
open Go.ChangeShapes Go.WideShapes Go.ChangeAt Go.RowKit
set_option linter.unusedVariables false
def PartP (L T M : Addr) (base b : Nat) (s : ByteArray) (r : Except PErr (PPart × Nat)) (en : Ending) (w' : World) : Prop := match r with
  | .error (e, x) => ∃ (k : Int) (nm : ByteArray) (va : Option Addr) (n c : Nat) (pl : Int) (b1 : Bool) (t1 : ByteArray) (i1 : Int) (b2 : Bool) (t2 : ByteArray) (i2 : Int), en = .returned (.tuple #[.agg #[.int .i64 k, .string nm, .slice va n c, .int .i64 pl, .bool b1, .string t1, .int .i64 i1, .bool b2, .string t2, .int .i64 i2], errV L T M e x])
  | .ok (p, q) => ∃ v, en = .returned (.tuple #[.agg (partV p v).toArray, .nilIface]) ∧ w'.ownsRow base 65 3 v p.atom.args.length (termsV p.atom.args) ∧ Rd w' b s (q : Nat)
theorem Errs.fresh {w w' : World} {L T M : Addr} (h : Errs w L T M) (hg : w.grownBy w' none) : Errs w' L T M :=
  h.grown (b := gTop) ⟨hg.os, hg.tape, hg.output, hg.size, fun k hk _ => hg.block k hk (by simp)⟩ (Nat.le_refl _)
theorem fr_none {w w' : World} (h : w.grownBy w' none) (r : Option Nat) : w.grownBy w' r := ⟨h.os, h.tape, h.output, h.size, fun k hk _ => h.block k hk (by simp)⟩
/-- a row that did not lie there turns nothing that did -/
theorem fr_fresh {w w' : World} {o : Obj} {C : Nat} (hC : w.heap.size = C) (h : (w.alloc o).grownBy w' (some C)) : w.grownBy w' none :=
  ⟨h.os, h.tape, h.output, by have := h.size; simp at this; omega, fun k hk _ => by rw [h.block k (by simp; omega) (by simp; omega), Below.heap_alloc _ _ _ hk]⟩
theorem compF_le (s : ByteArray) (p k q : Nat) (h : compF s.data.toList p = some (k, q)) : q ≤ s.size := by
  unfold compF at h
  cases h1 : signF s.data.toList [61] p with
  | some r => rw [h1] at h; cases h; exact signF_le s [61] p q h1 (by simp)
  | none =>
    rw [h1] at h
    cases h2 : signF s.data.toList [33, 61] p with
    | some r => rw [h2] at h; cases h; exact signF_le s [33, 61] p q h2 (by simp)
    | none =>
      rw [h2] at h
      cases h3 : signF s.data.toList [60] p with
      | some r => rw [h3] at h; cases h; exact signF_le s [60] p q h3 (by simp)
      | none => rw [h3] at h; cases h
set_option maxRecDepth 100000 in
set_option maxHeartbeats 4000000 in
theorem pcompares_any (b : Nat) (s : ByteArray) (p : Nat) (L T M : Addr) (w : World) (h : Rd w b s p) (hE : Errs w L T M) (hb : gTop ≤ b) (hp : p ≤ s.size) (hs : s.size ≤ 1073741824) :
    Calls Tryz.prog 121 #[.pointer (some ⟨b, 0, none⟩)] w fun en w' => en = .returned (.bool (compF s.data.toList (skipTo s.data.toList (p + (wordAt s.data.toList p).length))).isSome) ∧ w.grownBy w' none := by
  have hbw := h.lt
  have HR := hide h
  have HE := hide hE
  obtain ⟨c0, c1, f1⟩ := h
  clear hE
  obtain ⟨W, HWW⟩ : ∃ W, Hid (str (wordAt s.data.toList p) = W) := ⟨_, (rfl : _ = _)⟩
  have HWS : Hid (W.size = (wordAt s.data.toList p).length) := by show _ = _; rw [← HWW.out, str_size]
  have hle : p + W.size ≤ s.size := by rw [HWS.out]; exact word_le s p hp
  rw [← HWS.out]
  obtain ⟨q1, HQ1⟩ : ∃ q1, Hid (skipTo s.data.toList (p + W.size) = q1) := ⟨_, (rfl : _ = _)⟩
  have hq1 : q1 ≤ s.size := by rw [← HQ1.out]; exact skip_le s _ hle
  rw [HQ1.out]
  go_enter Tryz.func121, Tryz.ntmps121
  go_wp2_with fail
  generalize hw0 : World.alloc _ _ = w0
  obtain ⟨C, HC⟩ : ∃ C, Hid (w.heap.size = C) := ⟨_, (rfl : _ = _)⟩
  have hC : gTop ≤ C := by rw [← HC.out]; omega
  have HW0 := hide hw0.symm
  have HR0 : Hid (Rd w0 C s p) := by
    rw [← hw0]
    have hbx := Box.at w C [.string s, .int .i64 (p : Nat)] 110 HC.out.symm
    exact ⟨hbx.c 0 _ rfl, hbx.c 1 _ rfl, hbx.f 1 _ rfl⟩
  have HE0 : Hid (Errs w0 L T M) := by rw [← hw0]; exact HE.out.fresh (fr_alloc _ _ _)
  clear hw0 c0 c1 f1 HR HE
  rw [HC.out]
  refine (pwordAt_any C s p _ HR0.out hp hs).mono ?_
  rintro e w1 ⟨rfl, n, rfl⟩
  rw [HWW.out]
  go_wp2_with fail
  refine (pmove_any C s p W.size _ (HR0.out.drewN _) hle hs).mono ?_
  rintro e w2 ⟨rfl, hr, hf⟩
  rw [HQ1.out] at hr
  have HR2 := hide hr
  have HF2 : Hid (RFr w0 w2 C) := (RFr.draws _ _ _).trans hf
  have HE2 : Hid (Errs w2 L T M) := (HE0.out.drewN _).grown hf.g hC
  clear hr hf
  go_wp2_with fail
  refine (psign_any C s q1 L T M _ HR2.out HE2.out hC hq1 hs).mono ?_
  rintro e w3 ⟨hsg, hf⟩
  have HF3 : Hid (RFr w0 w3 C) := HF2.out.trans hf
  have HN3 : Hid (w.grownBy w3 none) := fr_fresh HC.out (by rw [← HW0.out]; exact HF3.out.g)
  clear hf
  obtain ⟨K, HK⟩ : ∃ K, Hid (compF s.data.toList q1 = K) := ⟨_, (rfl : _ = _)⟩
  rw [HK.out] at hsg
  cases K with
  | none =>
    have hsg' : e = .returned (.tuple #[.int .i64 0, errV L T M 2 q1]) := hsg
    subst hsg'
    unfold errV
    go_wp2
    go_ret
    exact ⟨by rw [HK.out]; rfl, HN3.out⟩
  | some kq =>
    obtain ⟨k, q⟩ := kq
    obtain ⟨rfl, _⟩ := hsg
    go_wp2
    go_ret
    exact ⟨by rw [HK.out]; rfl, HN3.out⟩
theorem Rd.sets {b : Nat} {s : ByteArray} {i : Int} {R : Nat} {w : World} (h : Rd w b s i) (hne : ¬ b = R) (vs : List Value) (j : Nat) : Rd (sets w R j vs) b s i := by
  induction vs generalizing j w with
  | nil => exact h
  | cons v vs ih => exact ih (h.other (fr_set w R j v) (fun e => hne (by cases e; rfl))) (j + 1)
/-- a comparison -/
def compP (l : List UInt8) (p : Nat) : Except PErr (PPart × Nat) := match termF l p with
  | .error e => .error e
  | .ok (t, q) => match compF l q with
    | none => .error (2, q)
    | some (k, r) => match termF l r with
      | .error e => .error e
      | .ok (u, r2) => .ok (⟨k, noAtom, t, u⟩, r2)
set_option maxRecDepth 100000 in
set_option maxHeartbeats 4000000 in
theorem pcomparison_any (b : Nat) (s : ByteArray) (p : Nat) (L T M : Addr) (w : World) (h : Rd w b s p) (hE : Errs w L T M) (hb : gTop ≤ b) (hp : p ≤ s.size) (hs : s.size ≤ 1073741824) :
    Calls Tryz.prog 122 #[.pointer (some ⟨b, 0, none⟩)] w fun en w' => PartP L T M w.heap.size b s (compP s.data.toList p) en w' ∧ w.grownBy w' (some b) := by
  have hbw := h.lt
  have HR := hide h
  have HE := hide hE
  have hbX : ¬ b = w.heap.size := by omega
  clear h hE
  go_enter Tryz.func122, Tryz.ntmps122
  go_wp2_with fail
  generalize hw0 : World.alloc _ _ = w0
  have HX0 : Hid (Box w0 w.heap.size partZ) := by rw [← hw0]; exact Box.new _ _ _
  have HR0 : Hid (Rd w0 b s p) := by rw [← hw0]; exact HR.out.far (Below.heap_alloc _ _ _ hbw)
  have HE0 : Hid (Errs w0 L T M) := by rw [← hw0]; exact HE.out.fresh (fr_alloc _ _ _)
  have HG0 : Hid (w.grownBy w0 (some b)) := by rw [← hw0]; exact fr_alloc _ _ _
  clear hw0 HR HE
  refine (pterm_any b s p L T M _ HR0.out HE0.out hb hp hs).mono ?_
  rintro e w1 ⟨ht, HFR⟩
  have HX1 : Hid (Box w1 w.heap.size partZ) := HX0.out.grown (by simp [partZ]) HFR (by simp; omega)
  have HE1 : Hid (Errs w1 L T M) := HE0.out.grown HFR hb
  have HG1 : Hid (w.grownBy w1 (some b)) := fr_both HG0.out HFR
  have hX1 : w.heap.size < w1.heap.size := HX1.out.lt (by simp [partZ])
  clear HFR HX0 HE0 HG0 HR0
  obtain ⟨F, HF⟩ : ∃ F, Hid (termF s.data.toList p = F) := ⟨_, (rfl : _ = _)⟩
  rw [HF.out] at ht
  cases F with
  | error er =>
    obtain ⟨ec, x⟩ := er
    have HT : Hid (compP s.data.toList p = .error (ec, x)) := by show _ = _; unfold compP; rw [HF.out]
    obtain ⟨t1, rfl⟩ := ht
    obtain ⟨tt, HTT⟩ : ∃ tt, Hid (str t1.text = tt) := ⟨_, (rfl : _ = _)⟩
    rw [show (termV t1).toArray = #[.bool t1.isVar, .string tt, .int .i64 (t1.place : Nat)] from by unfold termV; rw [HTT.out]]
    unfold errV
    have x0 := HX1.out.c 0 _ rfl
    have x1 := HX1.out.c 1 _ rfl
    have x2 := HX1.out.c 2 _ rfl
    have x3 := HX1.out.c 3 _ rfl
    have x4 := HX1.out.c 4 _ rfl
    have x5 := HX1.out.c 5 _ rfl
    have x6 := HX1.out.c 6 _ rfl
    have x7 := HX1.out.c 7 _ rfl
    have x8 := HX1.out.c 8 _ rfl
    have x9 := HX1.out.c 9 _ rfl
    have y0 := HX1.out.f 0 _ rfl
    have y1 := HX1.out.f 1 _ rfl
    have y2 := HX1.out.f 2 _ rfl
    have y3 := HX1.out.f 3 _ rfl
    have y4 := HX1.out.f 4 _ rfl
    have y5 := HX1.out.f 5 _ rfl
    have y6 := HX1.out.f 6 _ rfl
    have y7 := HX1.out.f 7 _ rfl
    have y8 := HX1.out.f 8 _ rfl
    have y9 := HX1.out.f 9 _ rfl
    go_wp2
    generalize hwf : World.alloc _ _ = wf
    obtain ⟨VS, HVS⟩ : ∃ VS : List Value, Hid (([.int .i64 0, .string { data := #[] }, .slice none 0 0, .int .i64 0, .bool false, .string { data := #[] }, .int .i64 0, .bool false, .string { data := #[] }, .int .i64 0] : List Value) = VS) := ⟨_, (rfl : _ = _)⟩
    have hsw : (sets w1 w.heap.size 0 VS).alloc (.cells #[.bool t1.isVar, .string tt, .int .i64 (t1.place : Nat)] 65) = wf := by
      rw [← HVS.out]; simp only [sets, Nat.zero_add, Nat.reduceAdd]; exact hwf
    clear hwf
    have HVL : Hid (VS.length = 10) := by show _ = _; rw [← HVS.out]; rfl
    have HXf : Hid (Box wf w.heap.size VS) := by rw [← hsw]; exact (HX1.out.sets VS HVL.out.symm).grown (by rw [HVL.out]; omega) (fr_alloc _ _ none) (by simp)
    have HGf : Hid (w.grownBy wf (some b)) := by rw [← hsw]; exact fr_both (fr_sets (Nat.le_refl _) VS 0 w1 HG1.out) (fr_alloc _ _ _)
    clear hsw x0 x1 x2 x3 x4 x5 x6 x7 x8 x9 y0 y1 y2 y3 y4 y5 y6 y7 y8 y9
    have hvs := HVS.out
    subst hvs
    have x0 := HXf.out.c 0 _ rfl
    have x1 := HXf.out.c 1 _ rfl
    have x2 := HXf.out.c 2 _ rfl
    have x3 := HXf.out.c 3 _ rfl
    have x4 := HXf.out.c 4 _ rfl
    have x5 := HXf.out.c 5 _ rfl
    have x6 := HXf.out.c 6 _ rfl
    have x7 := HXf.out.c 7 _ rfl
    have x8 := HXf.out.c 8 _ rfl
    have x9 := HXf.out.c 9 _ rfl
    refine bodyPost_ret (v := .tuple #[.agg ([.int .i64 0, .string { data := #[] }, .slice none 0 0, .int .i64 0, .bool false, .string { data := #[] }, .int .i64 0, .bool false, .string { data := #[] }, .int .i64 0] : List Value).toArray, .iface 115 (.agg #[.iface 338 (.pointer (some (errA L T M ec))), .int .i64 (x : Nat)])]) (by simp [results, Tryz.results122, go_sem, x0, x1, x2, x3, x4, x5, x6, x7, x8, x9]) rfl ⟨?_, HGf.out⟩
    rw [HT.out]; exact ⟨_, _, _, _, _, _, _, _, _, _, _, _, rfl⟩
  | ok tq =>
    obtain ⟨t1, q1⟩ := tq
    obtain ⟨rfl, hrd⟩ := ht
    have hq1 := termF_le s p hp t1 q1 HF.out
    obtain ⟨tt, HTT⟩ : ∃ tt, Hid (str t1.text = tt) := ⟨_, (rfl : _ = _)⟩
    rw [show (termV t1).toArray = #[.bool t1.isVar, .string tt, .int .i64 (t1.place : Nat)] from by unfold termV; rw [HTT.out]]
    have HR1 := hide hrd
    clear hrd
    go_wp2_with fail
    generalize hw2 : World.alloc _ _ = w2
    have HT2 : Hid (Box w2 w1.heap.size [.bool t1.isVar, .string tt, .int .i64 (t1.place : Nat)]) := by rw [← hw2]; exact Box.new _ _ _
    have HX2 : Hid (Box w2 w.heap.size partZ) := by rw [← hw2]; exact HX1.out.grown (by simp [partZ]) (fr_alloc _ _ none) (by simp)
    have HR2 : Hid (Rd w2 b s q1) := by rw [← hw2]; exact HR1.out.other (fr_alloc _ _ none) (by simp)
    have HE2 : Hid (Errs w2 L T M) := by rw [← hw2]; exact HE1.out.fresh (fr_alloc _ _ _)
    have HG2 : Hid (w.grownBy w2 (some b)) := by rw [← hw2]; exact fr_both HG1.out (fr_alloc _ _ _)
    obtain ⟨TB, HTB⟩ : ∃ TB, Hid (w1.heap.size = TB) := ⟨_, (rfl : _ = _)⟩
    rw [HTB.out] at HT2 hX1 ⊢
    clear hw2 HX1 HR1 HE1 HG1
    refine (psign_any b s q1 L T M _ HR2.out HE2.out hb hq1 hs).mono ?_
    rintro e w3 ⟨hsg, hf⟩
    have HX3 : Hid (Box w3 w.heap.size partZ) := HX2.out.grown (by simp [partZ]) hf.g (by simp; omega)
    have HT3 : Hid (Box w3 TB [.bool t1.isVar, .string tt, .int .i64 (t1.place : Nat)]) := HT2.out.grown (by simp) hf.g (by simp; omega)
    have HE3 : Hid (Errs w3 L T M) := HE2.out.grown hf.g hb
    have HG3 : Hid (w.grownBy w3 (some b)) := fr_both HG2.out hf.g
    clear hf HX2 HT2 HE2 HG2 HR2
    obtain ⟨K, HK⟩ : ∃ K, Hid (compF s.data.toList q1 = K) := ⟨_, (rfl : _ = _)⟩
    rw [HK.out] at hsg
    cases K with
    | none =>
      have HT : Hid (compP s.data.toList p = .error (2, q1)) := by show _ = _; unfold compP; rw [HF.out]; simp only [HK.out]
      have hsg' : e = .returned (.tuple #[.int .i64 0, errV L T M 2 q1]) := hsg
      subst hsg'
      unfold errV
      have x0 := HX3.out.c 0 _ rfl
      have x1 := HX3.out.c 1 _ rfl
      have x2 := HX3.out.c 2 _ rfl
      have x3 := HX3.out.c 3 _ rfl
      have x4 := HX3.out.c 4 _ rfl
      have x5 := HX3.out.c 5 _ rfl
      have x6 := HX3.out.c 6 _ rfl
      have x7 := HX3.out.c 7 _ rfl
      have x8 := HX3.out.c 8 _ rfl
      have x9 := HX3.out.c 9 _ rfl
      have y0 := HX3.out.f 0 _ rfl
      have y1 := HX3.out.f 1 _ rfl
      have y2 := HX3.out.f 2 _ rfl
      have y3 := HX3.out.f 3 _ rfl
      have y4 := HX3.out.f 4 _ rfl
      have y5 := HX3.out.f 5 _ rfl
      have y6 := HX3.out.f 6 _ rfl
      have y7 := HX3.out.f 7 _ rfl
      have y8 := HX3.out.f 8 _ rfl
      have y9 := HX3.out.f 9 _ rfl
      go_wp2
      generalize hwf : World.setCell _ _ _ = wf
      obtain ⟨VS, HVS⟩ : ∃ VS : List Value, Hid (([.int .i64 0, .string { data := #[] }, .slice none 0 0, .int .i64 0, .bool false, .string { data := #[] }, .int .i64 0, .bool false, .string { data := #[] }, .int .i64 0] : List Value) = VS) := ⟨_, (rfl : _ = _)⟩
      have hsw : sets w3 w.heap.size 0 VS = wf := by
        rw [← HVS.out]; simp only [sets, Nat.zero_add, Nat.reduceAdd]; exact hwf
      clear hwf
      have HVL : Hid (VS.length = 10) := by show _ = _; rw [← HVS.out]; rfl
      have HXf : Hid (Box wf w.heap.size VS) := by rw [← hsw]; exact HX3.out.sets VS HVL.out.symm
      have HGf : Hid (w.grownBy wf (some b)) := by rw [← hsw]; exact fr_sets (Nat.le_refl _) VS 0 w3 HG3.out
      clear hsw x0 x1 x2 x3 x4 x5 x6 x7 x8 x9 y0 y1 y2 y3 y4 y5 y6 y7 y8 y9
      have hvs := HVS.out
      subst hvs
      have x0 := HXf.out.c 0 _ rfl
      have x1 := HXf.out.c 1 _ rfl
      have x2 := HXf.out.c 2 _ rfl
      have x3 := HXf.out.c 3 _ rfl
      have x4 := HXf.out.c 4 _ rfl
      have x5 := HXf.out.c 5 _ rfl
      have x6 := HXf.out.c 6 _ rfl
      have x7 := HXf.out.c 7 _ rfl
      have x8 := HXf.out.c 8 _ rfl
      have x9 := HXf.out.c 9 _ rfl
      refine bodyPost_ret (v := .tuple #[.agg ([.int .i64 0, .string { data := #[] }, .slice none 0 0, .int .i64 0, .bool false, .string { data := #[] }, .int .i64 0, .bool false, .string { data := #[] }, .int .i64 0] : List Value).toArray, .iface 115 (.agg #[.iface 338 (.pointer (some (errA L T M 2))), .int .i64 (q1 : Nat)])]) (by simp [results, Tryz.results122, go_sem, x0, x1, x2, x3, x4, x5, x6, x7, x8, x9]) rfl ⟨?_, HGf.out⟩
      rw [HT.out]; exact ⟨_, _, _, _, _, _, _, _, _, _, _, _, rfl⟩
    | some kq =>
      obtain ⟨k, q2⟩ := kq
      obtain ⟨rfl, hrd⟩ := hsg
      have hq2 := compF_le s q1 k q2 HK.out
      have HR3 := hide hrd
      clear hrd
      go_wp2_with fail
      refine (pterm_any b s q2 L T M _ HR3.out HE3.out hb hq2 hs).mono ?_
      rintro e w4 ⟨ht, HFR⟩
      have HX4 : Hid (Box w4 w.heap.size partZ) := HX3.out.grown (by simp [partZ]) HFR (by simp; omega)
      have HT4 : Hid (Box w4 TB [.bool t1.isVar, .string tt, .int .i64 (t1.place : Nat)]) := HT3.out.grown (by simp) HFR (by simp; omega)
      have HG4 : Hid (w.grownBy w4 (some b)) := fr_both HG3.out HFR
      clear HFR HX3 HT3 HE3 HG3 HR3
      have hX4 : w.heap.size < w4.heap.size := HX4.out.lt (by simp [partZ])
      have hT4 : TB < w4.heap.size := HT4.out.lt (by simp)
      obtain ⟨F2, HF2⟩ : ∃ F2, Hid (termF s.data.toList q2 = F2) := ⟨_, (rfl : _ = _)⟩
      rw [HF2.out] at ht
      have x0 := HX4.out.c 0 _ rfl
      have x1 := HX4.out.c 1 _ rfl
      have x2 := HX4.out.c 2 _ rfl
      have x3 := HX4.out.c 3 _ rfl
      have x4 := HX4.out.c 4 _ rfl
      have x5 := HX4.out.c 5 _ rfl
      have x6 := HX4.out.c 6 _ rfl
      have x7 := HX4.out.c 7 _ rfl
      have x8 := HX4.out.c 8 _ rfl
      have x9 := HX4.out.c 9 _ rfl
      have y0 := HX4.out.f 0 _ rfl
      have y1 := HX4.out.f 1 _ rfl
      have y2 := HX4.out.f 2 _ rfl
      have y3 := HX4.out.f 3 _ rfl
      have y4 := HX4.out.f 4 _ rfl
      have y5 := HX4.out.f 5 _ rfl
      have y6 := HX4.out.f 6 _ rfl
      have y7 := HX4.out.f 7 _ rfl
      have y8 := HX4.out.f 8 _ rfl
      have y9 := HX4.out.f 9 _ rfl
      have z0 := HT4.out.c 0 _ rfl
      have z1 := HT4.out.c 1 _ rfl
      have z2 := HT4.out.c 2 _ rfl
      cases F2 with
      | error er =>
        obtain ⟨ec, x⟩ := er
        have HT : Hid (compP s.data.toList p = .error (ec, x)) := by show _ = _; unfold compP; rw [HF.out]; simp only [HK.out, HF2.out]
        obtain ⟨u1, rfl⟩ := ht
        obtain ⟨ut, HUT⟩ : ∃ ut, Hid (str u1.text = ut) := ⟨_, (rfl : _ = _)⟩
        rw [show (termV u1).toArray = #[.bool u1.isVar, .string ut, .int .i64 (u1.place : Nat)] from by unfold termV; rw [HUT.out]]
        unfold errV
        go_wp2
        generalize hwf : World.alloc _ _ = wf
        obtain ⟨VS, HVS⟩ : ∃ VS : List Value, Hid (([.int .i64 (k : Nat), .string { data := #[] }, .slice none 0 0, .int .i64 0, .bool t1.isVar, .string tt, .int .i64 (t1.place : Nat), .bool u1.isVar, .string ut, .int .i64 (u1.place : Nat)] : List Value) = VS) := ⟨_, (rfl : _ = _)⟩
        have hsw : (sets w4 w.heap.size 0 VS).alloc (.cells #[.bool u1.isVar, .string ut, .int .i64 (u1.place : Nat)] 65) = wf := by
          rw [← HVS.out]; simp only [sets, Nat.zero_add, Nat.reduceAdd]; exact hwf
        clear hwf
        have HVL : Hid (VS.length = 10) := by show _ = _; rw [← HVS.out]; rfl
        have HXf : Hid (Box wf w.heap.size VS) := by rw [← hsw]; exact (HX4.out.sets VS HVL.out.symm).grown (by rw [HVL.out]; omega) (fr_alloc _ _ none) (by simp)
        have HGf : Hid (w.grownBy wf (some b)) := by rw [← hsw]; exact fr_both (fr_sets (Nat.le_refl _) VS 0 w4 HG4.out) (fr_alloc _ _ _)
        clear hsw x0 x1 x2 x3 x4 x5 x6 x7 x8 x9 y0 y1 y2 y3 y4 y5 y6 y7 y8 y9 z0 z1 z2
        have hvs := HVS.out
        subst hvs
        have x0 := HXf.out.c 0 _ rfl
        have x1 := HXf.out.c 1 _ rfl
        have x2 := HXf.out.c 2 _ rfl
        have x3 := HXf.out.c 3 _ rfl
        have x4 := HXf.out.c 4 _ rfl
        have x5 := HXf.out.c 5 _ rfl
        have x6 := HXf.out.c 6 _ rfl
        have x7 := HXf.out.c 7 _ rfl
        have x8 := HXf.out.c 8 _ rfl
        have x9 := HXf.out.c 9 _ rfl
        refine bodyPost_ret (v := .tuple #[.agg ([.int .i64 (k : Nat), .string { data := #[] }, .slice none 0 0, .int .i64 0, .bool t1.isVar, .string tt, .int .i64 (t1.place : Nat), .bool u1.isVar, .string ut, .int .i64 (u1.place : Nat)] : List Value).toArray, .iface 115 (.agg #[.iface 338 (.pointer (some (errA L T M ec))), .int .i64 (x : Nat)])]) (by simp [results, Tryz.results122, go_sem, x0, x1, x2, x3, x4, x5, x6, x7, x8, x9]) rfl ⟨?_, HGf.out⟩
        rw [HT.out]; exact ⟨_, _, _, _, _, _, _, _, _, _, _, _, rfl⟩
      | ok uq =>
        obtain ⟨u1, q3⟩ := uq
        obtain ⟨rfl, hrd⟩ := ht
        have HT : Hid (compP s.data.toList p = .ok (⟨k, noAtom, t1, u1⟩, q3)) := by show _ = _; unfold compP; rw [HF.out]; simp only [HK.out, HF2.out]
        have HR4 := hide hrd
        clear hrd
        obtain ⟨ut, HUT⟩ : ∃ ut, Hid (str u1.text = ut) := ⟨_, (rfl : _ = _)⟩
        rw [show (termV u1).toArray = #[.bool u1.isVar, .string ut, .int .i64 (u1.place : Nat)] from by unfold termV; rw [HUT.out]]
        go_wp2
        generalize hwf : World.alloc _ _ = wf
        obtain ⟨VS, HVS⟩ : ∃ VS : List Value, Hid (([.int .i64 (k : Nat), .string { data := #[] }, .slice none 0 0, .int .i64 0, .bool t1.isVar, .string tt, .int .i64 (t1.place : Nat), .bool u1.isVar, .string ut, .int .i64 (u1.place : Nat)] : List Value) = VS) := ⟨_, (rfl : _ = _)⟩
        have hsw : (sets w4 w.heap.size 0 VS).alloc (.cells #[.bool u1.isVar, .string ut, .int .i64 (u1.place : Nat)] 65) = wf := by
          rw [← HVS.out]; simp only [sets, Nat.zero_add, Nat.reduceAdd]; exact hwf
        clear hwf
        have HVL : Hid (VS.length = 10) := by show _ = _; rw [← HVS.out]; rfl
        have HXf : Hid (Box wf w.heap.size VS) := by rw [← hsw]; exact (HX4.out.sets VS HVL.out.symm).grown (by rw [HVL.out]; omega) (fr_alloc _ _ none) (by simp)
        have HRf : Hid (Rd wf b s q3) := by rw [← hsw]; exact (HR4.out.sets hbX VS 0).other (fr_alloc _ _ none) (by simp)
        have HGf : Hid (w.grownBy wf (some b)) := by rw [← hsw]; exact fr_both (fr_sets (Nat.le_refl _) VS 0 w4 HG4.out) (fr_alloc _ _ _)
        clear hsw x0 x1 x2 x3 x4 x5 x6 x7 x8 x9 y0 y1 y2 y3 y4 y5 y6 y7 y8 y9 z0 z1 z2
        have hvs := HVS.out
        subst hvs
        have x0 := HXf.out.c 0 _ rfl
        have x1 := HXf.out.c 1 _ rfl
        have x2 := HXf.out.c 2 _ rfl
        have x3 := HXf.out.c 3 _ rfl
        have x4 := HXf.out.c 4 _ rfl
        have x5 := HXf.out.c 5 _ rfl
        have x6 := HXf.out.c 6 _ rfl
        have x7 := HXf.out.c 7 _ rfl
        have x8 := HXf.out.c 8 _ rfl
        have x9 := HXf.out.c 9 _ rfl
        refine bodyPost_ret (v := .tuple #[.agg ([.int .i64 (k : Nat), .string { data := #[] }, .slice none 0 0, .int .i64 0, .bool t1.isVar, .string tt, .int .i64 (t1.place : Nat), .bool u1.isVar, .string ut, .int .i64 (u1.place : Nat)] : List Value).toArray, .nilIface]) (by simp [results, Tryz.results122, go_sem, x0, x1, x2, x3, x4, x5, x6, x7, x8, x9]) rfl ⟨?_, HGf.out⟩
        rw [HT.out]
        exact ⟨_, by unfold partV; rw [HTT.out, HUT.out]; rfl, World.ownsRow_nil _ _ _ _, HRf.out⟩
theorem partF_cmp (l : List UInt8) (p : Nat) (h1 : ¬ wordAt l p = [110, 111, 116]) (h2 : (atNameB l p && (compF l (skipTo l (p + (wordAt l p).length))).isNone) = false) : partF l p = compP l p := by
  unfold partF compP; rw [if_neg h1, h2]; rfl
theorem partF_nots (l : List UInt8) (p : Nat) (h1 : wordAt l p = [110, 111, 116]) : partF l p = match atomF l (skipTo l (p + 3)) with
    | .error e => .error e
    | .ok (a, q) => .ok (⟨1, a, noTerm, noTerm⟩, q) := by
  unfold partF; rw [if_pos h1]; rfl
theorem partF_atom (l : List UInt8) (p : Nat) (h1 : ¬ wordAt l p = [110, 111, 116]) (h2 : (atNameB l p && (compF l (skipTo l (p + (wordAt l p).length))).isNone) = true) : partF l p = match atomF l p with
    | .error e => .error e
    | .ok (a, q) => .ok (⟨0, a, noTerm, noTerm⟩, q) := by
  unfold partF; rw [if_neg h1, if_pos h2]; rfl
set_option maxRecDepth 100000 in
set_option maxHeartbeats 4000000 in
theorem ppart_any (b : Nat) (s : ByteArray) (p : Nat) (L T M : Addr) (w : World) (h : Rd w b s p) (hE : Errs w L T M) (hb : gTop ≤ b) (hp : p ≤ s.size) (hs : s.size ≤ 1073741824) :
    Calls Tryz.prog 81 #[.pointer (some ⟨b, 0, none⟩)] w fun en w' => PartP L T M w.heap.size b s (partF s.data.toList p) en w' ∧ w.grownBy w' (some b) := by
  have hbw := h.lt
  have HR := hide h
  have HE := hide hE
  have hbX : ¬ b = w.heap.size := by omega
  clear h hE
  obtain ⟨W, HWW⟩ : ∃ W, Hid (str (wordAt s.data.toList p) = W) := ⟨_, (rfl : _ = _)⟩
  have HWL : Hid (W.toList = wordAt s.data.toList p) := by show _ = _; rw [← HWW.out, toList_str]
  have hwle := word_le s p hp
  go_enter Tryz.func81, Tryz.ntmps81
  go_wp2_with fail
  generalize hw0 : World.alloc _ _ = w0
  have HX0 : Hid (Box w0 w.heap.size partZ) := by rw [← hw0]; exact Box.new _ _ _
  have HR0 : Hid (Rd w0 b s p) := by rw [← hw0]; exact HR.out.far (Below.heap_alloc _ _ _ hbw)
  have HE0 : Hid (Errs w0 L T M) := by rw [← hw0]; exact HE.out.fresh (fr_alloc _ _ _)
  have HG0 : Hid (w.grownBy w0 (some b)) := by rw [← hw0]; exact fr_alloc _ _ _
  clear hw0 HR HE
  refine (pwordAt_any b s p _ HR0.out hp hs).mono ?_
  rintro e w1 ⟨rfl, n, rfl⟩
  rw [HWW.out]
  have HX1 : Hid (Box (w0.drewN n) w.heap.size partZ) := HX0.out.grown (by simp [partZ]) (fr_draws _ _ none) (by simp)
  have HR1 : Hid (Rd (w0.drewN n) b s p) := HR0.out.drewN _
  have HE1 : Hid (Errs (w0.drewN n) L T M) := HE0.out.drewN _
  have HG1 : Hid (w.grownBy (w0.drewN n) (some b)) := fr_both HG0.out (fr_draws _ _ _)
  generalize w0.drewN n = w1 at *
  clear HX0 HR0 HE0 HG0
  by_cases hn : wordAt s.data.toList p = [110, 111, 116]
  · have g1 : (W.toList == [110, 111, 116]) = true := by rw [HWL.out, hn]; rfl
    have HTP := hide (partF_nots s.data.toList p hn)
    rw [hn] at hwle
    have hle3 : p + 3 ≤ s.size := hwle
    clear hn hwle
    go_wp2_with fail
    refine (pmove_any b s p 3 _ HR1.out hle3 hs).mono ?_
    rintro e w2 ⟨rfl, hr, hf⟩
    have HX2 : Hid (Box w2 w.heap.size partZ) := HX1.out.grown (by simp [partZ]) hf.g (by simp; omega)
    have HE2 : Hid (Errs w2 L T M) := HE1.out.grown hf.g hb
    have HG2 : Hid (w.grownBy w2 (some b)) := fr_both HG1.out hf.g
    obtain ⟨q1, HQ1⟩ : ∃ q1, Hid (skipTo s.data.toList (p + 3) = q1) := ⟨_, (rfl : _ = _)⟩
    have hq1 : q1 ≤ s.size := by rw [← HQ1.out]; exact skip_le s _ hle3
    rw [HQ1.out] at hr HTP
    have HR2 := hide hr
    clear hr hf HX1 HE1 HG1 HR1
    go_wp2_with fail
    refine (patom_any b s q1 L T M _ HR2.out HE2.out hb hq1 hs).mono ?_
    rintro e w5 ⟨ha, HFR⟩
    have HX5 : Hid (Box w5 w.heap.size partZ) := HX2.out.grown (by simp [partZ]) HFR (by simp; omega)
    have HG5 : Hid (w.grownBy w5 (some b)) := fr_both HG2.out HFR
    have hX2 : w.heap.size < w2.heap.size := HX2.out.lt (by simp [partZ])
    have hX5 : w.heap.size < w5.heap.size := HX5.out.lt (by simp [partZ])
    clear HFR
    obtain ⟨F, HF⟩ : ∃ F, Hid (atomF s.data.toList q1 = F) := ⟨_, (rfl : _ = _)⟩
    rw [HF.out] at ha HTP
    have x0 := HX5.out.c 0 _ rfl
    have x1 := HX5.out.c 1 _ rfl
    have x2 := HX5.out.c 2 _ rfl
    have x3 := HX5.out.c 3 _ rfl
    have x4 := HX5.out.c 4 _ rfl
    have x5 := HX5.out.c 5 _ rfl
    have x6 := HX5.out.c 6 _ rfl
    have x7 := HX5.out.c 7 _ rfl
    have x8 := HX5.out.c 8 _ rfl
    have x9 := HX5.out.c 9 _ rfl
    have y0 := HX5.out.f 0 _ rfl
    have y1 := HX5.out.f 1 _ rfl
    have y2 := HX5.out.f 2 _ rfl
    have y3 := HX5.out.f 3 _ rfl
    have y4 := HX5.out.f 4 _ rfl
    have y5 := HX5.out.f 5 _ rfl
    have y6 := HX5.out.f 6 _ rfl
    have y7 := HX5.out.f 7 _ rfl
    have y8 := HX5.out.f 8 _ rfl
    have y9 := HX5.out.f 9 _ rfl
    cases F with
    | error er =>
      obtain ⟨ec, x⟩ := er
      have HT : Hid (partF s.data.toList p = .error (ec, x)) := HTP.out
      obtain ⟨SN, va, na, vc, pl, rfl⟩ := ha
      unfold errV
      go_wp2
      generalize hwf : World.alloc _ _ = wf
      obtain ⟨VS, HVS⟩ : ∃ VS : List Value, Hid (([.int .i64 1, .string SN, .slice va na vc, .int .i64 pl, .bool false, .string { data := #[] }, .int .i64 0, .bool false, .string { data := #[] }, .int .i64 0] : List Value) = VS) := ⟨_, (rfl : _ = _)⟩
      have hsw : (sets w5 w.heap.size 0 VS).alloc (.cells #[.string SN, .slice va na vc, .int .i64 pl] 63) = wf := by
        rw [← HVS.out]; simp only [sets, Nat.zero_add, Nat.reduceAdd]; exact hwf
      clear hwf
      have HVL : Hid (VS.length = 10) := by show _ = _; rw [← HVS.out]; rfl
      have HXf : Hid (Box wf w.heap.size VS) := by rw [← hsw]; exact (HX5.out.sets VS HVL.out.symm).grown (by rw [HVL.out]; omega) (fr_alloc _ _ none) (by simp)
      have HGf : Hid (w.grownBy wf (some b)) := by rw [← hsw]; exact fr_both (fr_sets (Nat.le_refl _) VS 0 w5 HG5.out) (fr_alloc _ _ _)
      clear hsw x0 x1 x2 x3 x4 x5 x6 x7 x8 x9 y0 y1 y2 y3 y4 y5 y6 y7 y8 y9
      have hvs := HVS.out
      subst hvs
      have x0 := HXf.out.c 0 _ rfl
      have x1 := HXf.out.c 1 _ rfl
      have x2 := HXf.out.c 2 _ rfl
      have x3 := HXf.out.c 3 _ rfl
      have x4 := HXf.out.c 4 _ rfl
      have x5 := HXf.out.c 5 _ rfl
      have x6 := HXf.out.c 6 _ rfl
      have x7 := HXf.out.c 7 _ rfl
      have x8 := HXf.out.c 8 _ rfl
      have x9 := HXf.out.c 9 _ rfl
      refine bodyPost_ret (v := .tuple #[.agg ([.int .i64 1, .string SN, .slice va na vc, .int .i64 pl, .bool false, .string { data := #[] }, .int .i64 0, .bool false, .string { data := #[] }, .int .i64 0] : List Value).toArray, .iface 115 (.agg #[.iface 338 (.pointer (some (errA L T M ec))), .int .i64 (x : Nat)])]) (by simp [results, Tryz.results81, go_sem, x0, x1, x2, x3, x4, x5, x6, x7, x8, x9]) rfl ⟨?_, HGf.out⟩
      rw [HT.out]; exact ⟨_, _, _, _, _, _, _, _, _, _, _, _, rfl⟩
    | ok aq =>
      obtain ⟨A, q3⟩ := aq
      have HT : Hid (partF s.data.toList p = .ok (⟨1, A, noTerm, noTerm⟩, q3)) := HTP.out
      obtain ⟨v, rfl, hown, hrd⟩ := ha
      obtain ⟨va, vc, rfl⟩ := own_form hown
      have HO5 := hide hown
      have HR5 := hide hrd
      clear hown hrd
      obtain ⟨SN, HSN⟩ : ∃ SN, Hid (str A.name = SN) := ⟨_, (rfl : _ = _)⟩
      rw [HSN.out]
      obtain ⟨na, HNA⟩ : ∃ na, Hid (A.args.length = na) := ⟨_, (rfl : _ = _)⟩
      rw [HNA.out] at HO5 ⊢
      go_wp2
      generalize hwf : World.alloc _ _ = wf
      obtain ⟨VS, HVS⟩ : ∃ VS : List Value, Hid (([.int .i64 1, .string SN, .slice va na vc, .int .i64 (A.place : Nat), .bool false, .string { data := #[] }, .int .i64 0, .bool false, .string { data := #[] }, .int .i64 0] : List Value) = VS) := ⟨_, (rfl : _ = _)⟩
      have hsw : (sets w5 w.heap.size 0 VS).alloc (.cells #[.string SN, .slice va na vc, .int .i64 (A.place : Nat)] 63) = wf := by
        rw [← HVS.out]; simp only [sets, Nat.zero_add, Nat.reduceAdd]; exact hwf
      clear hwf
      have HVL : Hid (VS.length = 10) := by show _ = _; rw [← HVS.out]; rfl
      have HXf : Hid (Box wf w.heap.size VS) := by rw [← hsw]; exact (HX5.out.sets VS HVL.out.symm).grown (by rw [HVL.out]; omega) (fr_alloc _ _ none) (by simp)
      have HRf : Hid (Rd wf b s q3) := by rw [← hsw]; exact (HR5.out.sets hbX VS 0).other (fr_alloc _ _ none) (by simp)
      have HOf : Hid (wf.ownsRow w2.heap.size 65 3 (.slice va na vc) na (termsV A.args)) := by rw [← hsw]; exact (own_sets hX2 VS 0 w5 HO5.out).alloc _
      have HGf : Hid (w.grownBy wf (some b)) := by rw [← hsw]; exact fr_both (fr_sets (Nat.le_refl _) VS 0 w5 HG5.out) (fr_alloc _ _ _)
      clear hsw x0 x1 x2 x3 x4 x5 x6 x7 x8 x9 y0 y1 y2 y3 y4 y5 y6 y7 y8 y9
      have hvs := HVS.out
      subst hvs
      have x0 := HXf.out.c 0 _ rfl
      have x1 := HXf.out.c 1 _ rfl
      have x2 := HXf.out.c 2 _ rfl
      have x3 := HXf.out.c 3 _ rfl
      have x4 := HXf.out.c 4 _ rfl
      have x5 := HXf.out.c 5 _ rfl
      have x6 := HXf.out.c 6 _ rfl
      have x7 := HXf.out.c 7 _ rfl
      have x8 := HXf.out.c 8 _ rfl
      have x9 := HXf.out.c 9 _ rfl
      refine bodyPost_ret (v := .tuple #[.agg ([.int .i64 1, .string SN, .slice va na vc, .int .i64 (A.place : Nat), .bool false, .string { data := #[] }, .int .i64 0, .bool false, .string { data := #[] }, .int .i64 0] : List Value).toArray, .nilIface]) (by simp [results, Tryz.results81, go_sem, x0, x1, x2, x3, x4, x5, x6, x7, x8, x9]) rfl ⟨?_, HGf.out⟩
      rw [HT.out]
      refine ⟨_, by unfold partV; rw [HSN.out]; rfl, ?_, HRf.out⟩
      show World.ownsRow _ _ _ _ _ A.args.length _
      rw [HNA.out]; exact own_lower HOf.out (by omega)
  · have g1 : (W.toList == [110, 111, 116]) = false := by rw [HWL.out, beq_eq_false_iff_ne]; exact hn
    have HNN := hide hn
    clear hn
    go_wp2_with fail
    refine (patName_any b s p _ HR1.out hp hs).mono ?_
    rintro e w2 ⟨rfl, n2, rfl⟩
    have HX2 : Hid (Box (w1.drewN n2) w.heap.size partZ) := HX1.out.grown (by simp [partZ]) (fr_draws _ _ none) (by simp)
    have HR2 : Hid (Rd (w1.drewN n2) b s p) := HR1.out.drewN _
    have HE2 : Hid (Errs (w1.drewN n2) L T M) := HE1.out.drewN _
    have HG2 : Hid (w.grownBy (w1.drewN n2) (some b)) := fr_both HG1.out (fr_draws _ _ _)
    generalize w1.drewN n2 = w2 at *
    clear HX1 HR1 HE1 HG1
    obtain ⟨B, HB⟩ : ∃ B, Hid (atNameB s.data.toList p = B) := ⟨_, (rfl : _ = _)⟩
    rw [HB.out]
    cases B with
    | false =>
      have HTP : Hid (partF s.data.toList p = compP s.data.toList p) := partF_cmp _ _ HNN.out (by rw [HB.out]; rfl)
      go_wp2_with fail
      refine (pcomparison_any b s p L T M _ HR2.out HE2.out hb hp hs).mono ?_
      rintro e w5 ⟨ha, HFR⟩
      have HX5 : Hid (Box w5 w.heap.size partZ) := HX2.out.grown (by simp [partZ]) HFR (by simp; omega)
      have HG5 : Hid (w.grownBy w5 (some b)) := fr_both HG2.out HFR
      have hX2 : w.heap.size < w2.heap.size := HX2.out.lt (by simp [partZ])
      have hX5 : w.heap.size < w5.heap.size := HX5.out.lt (by simp [partZ])
      clear HFR
      obtain ⟨F, HF⟩ : ∃ F, Hid (compP s.data.toList p = F) := ⟨_, (rfl : _ = _)⟩
      rw [HF.out] at ha HTP
      have x0 := HX5.out.c 0 _ rfl
      have x1 := HX5.out.c 1 _ rfl
      have x2 := HX5.out.c 2 _ rfl
      have x3 := HX5.out.c 3 _ rfl
      have x4 := HX5.out.c 4 _ rfl
      have x5 := HX5.out.c 5 _ rfl
      have x6 := HX5.out.c 6 _ rfl
      have x7 := HX5.out.c 7 _ rfl
      have x8 := HX5.out.c 8 _ rfl
      have x9 := HX5.out.c 9 _ rfl
      have y0 := HX5.out.f 0 _ rfl
      have y1 := HX5.out.f 1 _ rfl
      have y2 := HX5.out.f 2 _ rfl
      have y3 := HX5.out.f 3 _ rfl
      have y4 := HX5.out.f 4 _ rfl
      have y5 := HX5.out.f 5 _ rfl
      have y6 := HX5.out.f 6 _ rfl
      have y7 := HX5.out.f 7 _ rfl
      have y8 := HX5.out.f 8 _ rfl
      have y9 := HX5.out.f 9 _ rfl
      cases F with
      | error er =>
        obtain ⟨ec, x⟩ := er
        have HT : Hid (partF s.data.toList p = .error (ec, x)) := HTP.out
        obtain ⟨k, nm, va, nn, c, pl, b1, t1, i1, b2, t2, i2, rfl⟩ := ha
        unfold errV
        go_wp2
        generalize hwf : World.setCell _ _ _ = wf
        obtain ⟨VS, HVS⟩ : ∃ VS : List Value, Hid (([.int .i64 k, .string nm, .slice va nn c, .int .i64 pl, .bool b1, .string t1, .int .i64 i1, .bool b2, .string t2, .int .i64 i2] : List Value) = VS) := ⟨_, (rfl : _ = _)⟩
        have hsw : sets w5 w.heap.size 0 VS = wf := by
          rw [← HVS.out]; simp only [sets, Nat.zero_add, Nat.reduceAdd]; exact hwf
        clear hwf
        have HVL : Hid (VS.length = 10) := by show _ = _; rw [← HVS.out]; rfl
        have HXf : Hid (Box wf w.heap.size VS) := by rw [← hsw]; exact HX5.out.sets VS HVL.out.symm
        have HGf : Hid (w.grownBy wf (some b)) := by rw [← hsw]; exact fr_sets (Nat.le_refl _) VS 0 w5 HG5.out
        clear hsw x0 x1 x2 x3 x4 x5 x6 x7 x8 x9 y0 y1 y2 y3 y4 y5 y6 y7 y8 y9
        have hvs := HVS.out
        subst hvs
        have x0 := HXf.out.c 0 _ rfl
        have x1 := HXf.out.c 1 _ rfl
        have x2 := HXf.out.c 2 _ rfl
        have x3 := HXf.out.c 3 _ rfl
        have x4 := HXf.out.c 4 _ rfl
        have x5 := HXf.out.c 5 _ rfl
        have x6 := HXf.out.c 6 _ rfl
        have x7 := HXf.out.c 7 _ rfl
        have x8 := HXf.out.c 8 _ rfl
        have x9 := HXf.out.c 9 _ rfl
        refine bodyPost_ret (v := .tuple #[.agg ([.int .i64 k, .string nm, .slice va nn c, .int .i64 pl, .bool b1, .string t1, .int .i64 i1, .bool b2, .string t2, .int .i64 i2] : List Value).toArray, .iface 115 (.agg #[.iface 338 (.pointer (some (errA L T M ec))), .int .i64 (x : Nat)])]) (by simp [results, Tryz.results81, go_sem, x0, x1, x2, x3, x4, x5, x6, x7, x8, x9]) rfl ⟨?_, HGf.out⟩
        rw [HT.out]; exact ⟨_, _, _, _, _, _, _, _, _, _, _, _, rfl⟩
      | ok pq =>
        obtain ⟨P, q3⟩ := pq
        have HT : Hid (partF s.data.toList p = .ok (P, q3)) := HTP.out
        obtain ⟨v, rfl, hown, hrd⟩ := ha
        obtain ⟨va, vc, rfl⟩ := own_form hown
        have HO5 := hide hown
        have HR5 := hide hrd
        clear hown hrd
        obtain ⟨n1, HN1⟩ : ∃ n1, Hid (str P.atom.name = n1) := ⟨_, (rfl : _ = _)⟩
        obtain ⟨l1, HL1⟩ : ∃ l1, Hid (str P.left.text = l1) := ⟨_, (rfl : _ = _)⟩
        obtain ⟨r1, HR1⟩ : ∃ r1, Hid (str P.right.text = r1) := ⟨_, (rfl : _ = _)⟩
        obtain ⟨na, HNA⟩ : ∃ na, Hid (P.atom.args.length = na) := ⟨_, (rfl : _ = _)⟩
        rw [HNA.out] at HO5 ⊢
        have HPV : Hid (partV P (.slice va na vc) = [.int .i64 (P.kind : Nat), .string n1, .slice va na vc, .int .i64 (P.atom.place : Nat), .bool P.left.isVar, .string l1, .int .i64 (P.left.place : Nat), .bool P.right.isVar, .string r1, .int .i64 (P.right.place : Nat)]) := by show _ = _; unfold partV; rw [HN1.out, HL1.out, HR1.out]
        rw [show (partV P (.slice va na vc)).toArray = #[.int .i64 (P.kind : Nat), .string n1, .slice va na vc, .int .i64 (P.atom.place : Nat), .bool P.left.isVar, .string l1, .int .i64 (P.left.place : Nat), .bool P.right.isVar, .string r1, .int .i64 (P.right.place : Nat)] from by rw [HPV.out]]
        go_wp2
        generalize hwf : World.setCell _ _ _ = wf
        obtain ⟨VS, HVS⟩ : ∃ VS : List Value, Hid (([.int .i64 (P.kind : Nat), .string n1, .slice va na vc, .int .i64 (P.atom.place : Nat), .bool P.left.isVar, .string l1, .int .i64 (P.left.place : Nat), .bool P.right.isVar, .string r1, .int .i64 (P.right.place : Nat)] : List Value) = VS) := ⟨_, (rfl : _ = _)⟩
        have hsw : sets w5 w.heap.size 0 VS = wf := by
          rw [← HVS.out]; simp only [sets, Nat.zero_add, Nat.reduceAdd]; exact hwf
        clear hwf
        have HVL : Hid (VS.length = 10) := by show _ = _; rw [← HVS.out]; rfl
        have HXf : Hid (Box wf w.heap.size VS) := by rw [← hsw]; exact HX5.out.sets VS HVL.out.symm
        have HRf : Hid (Rd wf b s q3) := by rw [← hsw]; exact HR5.out.sets hbX VS 0
        have HOf : Hid (wf.ownsRow w2.heap.size 65 3 (.slice va na vc) na (termsV P.atom.args)) := by rw [← hsw]; exact own_sets hX2 VS 0 w5 HO5.out
        have HGf : Hid (w.grownBy wf (some b)) := by rw [← hsw]; exact fr_sets (Nat.le_refl _) VS 0 w5 HG5.out
        clear hsw x0 x1 x2 x3 x4 x5 x6 x7 x8 x9 y0 y1 y2 y3 y4 y5 y6 y7 y8 y9
        have hvs := HVS.out
        subst hvs
        have x0 := HXf.out.c 0 _ rfl
        have x1 := HXf.out.c 1 _ rfl
        have x2 := HXf.out.c 2 _ rfl
        have x3 := HXf.out.c 3 _ rfl
        have x4 := HXf.out.c 4 _ rfl
        have x5 := HXf.out.c 5 _ rfl
        have x6 := HXf.out.c 6 _ rfl
        have x7 := HXf.out.c 7 _ rfl
        have x8 := HXf.out.c 8 _ rfl
        have x9 := HXf.out.c 9 _ rfl
        refine bodyPost_ret (v := .tuple #[.agg ([.int .i64 (P.kind : Nat), .string n1, .slice va na vc, .int .i64 (P.atom.place : Nat), .bool P.left.isVar, .string l1, .int .i64 (P.left.place : Nat), .bool P.right.isVar, .string r1, .int .i64 (P.right.place : Nat)] : List Value).toArray, .nilIface]) (by simp [results, Tryz.results81, go_sem, x0, x1, x2, x3, x4, x5, x6, x7, x8, x9]) rfl ⟨?_, HGf.out⟩
        rw [HT.out]
        refine ⟨_, by rw [HPV.out], ?_, HRf.out⟩
        rw [HNA.out]; exact own_lower HOf.out (by omega)
    | true =>
      go_wp2_with fail
      refine (pcompares_any b s p L T M _ HR2.out HE2.out hb hp hs).mono ?_
      rintro e w3 ⟨rfl, hf⟩
      have HX3 : Hid (Box w3 w.heap.size partZ) := HX2.out.grown (by simp [partZ]) hf (by simp)
      have HR3 : Hid (Rd w3 b s p) := HR2.out.other hf (by simp)
      have HE3 : Hid (Errs w3 L T M) := HE2.out.fresh hf
      have HG3 : Hid (w.grownBy w3 (some b)) := fr_both HG2.out (fr_none hf _)
      clear hf HX2 HR2 HE2 HG2
      obtain ⟨K, HK⟩ : ∃ K, Hid (compF s.data.toList (skipTo s.data.toList (p + (wordAt s.data.toList p).length)) = K) := ⟨_, (rfl : _ = _)⟩
      rw [HK.out]
      cases K with
      | none =>
        have HTP := hide (partF_atom s.data.toList p HNN.out (by rw [HB.out, HK.out]; rfl))
        go_wp2_with fail
        refine (patom_any b s p L T M _ HR3.out HE3.out hb hp hs).mono ?_
        rintro e w5 ⟨ha, HFR⟩
        have HX5 : Hid (Box w5 w.heap.size partZ) := HX3.out.grown (by simp [partZ]) HFR (by simp; omega)
        have HG5 : Hid (w.grownBy w5 (some b)) := fr_both HG3.out HFR
        have hX3 : w.heap.size < w3.heap.size := HX3.out.lt (by simp [partZ])
        have hX5 : w.heap.size < w5.heap.size := HX5.out.lt (by simp [partZ])
        clear HFR
        obtain ⟨F, HF⟩ : ∃ F, Hid (atomF s.data.toList p = F) := ⟨_, (rfl : _ = _)⟩
        rw [HF.out] at ha HTP
        have x0 := HX5.out.c 0 _ rfl
        have x1 := HX5.out.c 1 _ rfl
        have x2 := HX5.out.c 2 _ rfl
        have x3 := HX5.out.c 3 _ rfl
        have x4 := HX5.out.c 4 _ rfl
        have x5 := HX5.out.c 5 _ rfl
        have x6 := HX5.out.c 6 _ rfl
        have x7 := HX5.out.c 7 _ rfl
        have x8 := HX5.out.c 8 _ rfl
        have x9 := HX5.out.c 9 _ rfl
        have y0 := HX5.out.f 0 _ rfl
        have y1 := HX5.out.f 1 _ rfl
        have y2 := HX5.out.f 2 _ rfl
        have y3 := HX5.out.f 3 _ rfl
        have y4 := HX5.out.f 4 _ rfl
        have y5 := HX5.out.f 5 _ rfl
        have y6 := HX5.out.f 6 _ rfl
        have y7 := HX5.out.f 7 _ rfl
        have y8 := HX5.out.f 8 _ rfl
        have y9 := HX5.out.f 9 _ rfl
        cases F with
        | error er =>
          obtain ⟨ec, x⟩ := er
          have HT : Hid (partF s.data.toList p = .error (ec, x)) := HTP.out
          obtain ⟨SN, va, na, vc, pl, rfl⟩ := ha
          unfold errV
          go_wp2
          generalize hwf : World.alloc _ _ = wf
          obtain ⟨VS, HVS⟩ : ∃ VS : List Value, Hid (([.int .i64 0, .string SN, .slice va na vc, .int .i64 pl, .bool false, .string { data := #[] }, .int .i64 0, .bool false, .string { data := #[] }, .int .i64 0] : List Value) = VS) := ⟨_, (rfl : _ = _)⟩
          have hsw : (sets w5 w.heap.size 0 VS).alloc (.cells #[.string SN, .slice va na vc, .int .i64 pl] 63) = wf := by
            rw [← HVS.out]; simp only [sets, Nat.zero_add, Nat.reduceAdd]; exact hwf
          clear hwf
          have HVL : Hid (VS.length = 10) := by show _ = _; rw [← HVS.out]; rfl
          have HXf : Hid (Box wf w.heap.size VS) := by rw [← hsw]; exact (HX5.out.sets VS HVL.out.symm).grown (by rw [HVL.out]; omega) (fr_alloc _ _ none) (by simp)
          have HGf : Hid (w.grownBy wf (some b)) := by rw [← hsw]; exact fr_both (fr_sets (Nat.le_refl _) VS 0 w5 HG5.out) (fr_alloc _ _ _)
          clear hsw x0 x1 x2 x3 x4 x5 x6 x7 x8 x9 y0 y1 y2 y3 y4 y5 y6 y7 y8 y9
          have hvs := HVS.out
          subst hvs
          have x0 := HXf.out.c 0 _ rfl
          have x1 := HXf.out.c 1 _ rfl
          have x2 := HXf.out.c 2 _ rfl
          have x3 := HXf.out.c 3 _ rfl
          have x4 := HXf.out.c 4 _ rfl
          have x5 := HXf.out.c 5 _ rfl
          have x6 := HXf.out.c 6 _ rfl
          have x7 := HXf.out.c 7 _ rfl
          have x8 := HXf.out.c 8 _ rfl
          have x9 := HXf.out.c 9 _ rfl
          refine bodyPost_ret (v := .tuple #[.agg ([.int .i64 0, .string SN, .slice va na vc, .int .i64 pl, .bool false, .string { data := #[] }, .int .i64 0, .bool false, .string { data := #[] }, .int .i64 0] : List Value).toArray, .iface 115 (.agg #[.iface 338 (.pointer (some (errA L T M ec))), .int .i64 (x : Nat)])]) (by simp [results, Tryz.results81, go_sem, x0, x1, x2, x3, x4, x5, x6, x7, x8, x9]) rfl ⟨?_, HGf.out⟩
          rw [HT.out]; exact ⟨_, _, _, _, _, _, _, _, _, _, _, _, rfl⟩
        | ok aq =>
          obtain ⟨A, q3⟩ := aq
          have HT : Hid (partF s.data.toList p = .ok (⟨0, A, noTerm, noTerm⟩, q3)) := HTP.out
          obtain ⟨v, rfl, hown, hrd⟩ := ha
          obtain ⟨va, vc, rfl⟩ := own_form hown
          have HO5 := hide hown
          have HR5 := hide hrd
          clear hown hrd
          obtain ⟨SN, HSN⟩ : ∃ SN, Hid (str A.name = SN) := ⟨_, (rfl : _ = _)⟩
          rw [HSN.out]
          obtain ⟨na, HNA⟩ : ∃ na, Hid (A.args.length = na) := ⟨_, (rfl : _ = _)⟩
          rw [HNA.out] at HO5 ⊢
          go_wp2
          generalize hwf : World.alloc _ _ = wf
          obtain ⟨VS, HVS⟩ : ∃ VS : List Value, Hid (([.int .i64 0, .string SN, .slice va na vc, .int .i64 (A.place : Nat), .bool false, .string { data := #[] }, .int .i64 0, .bool false, .string { data := #[] }, .int .i64 0] : List Value) = VS) := ⟨_, (rfl : _ = _)⟩
          have hsw : (sets w5 w.heap.size 0 VS).alloc (.cells #[.string SN, .slice va na vc, .int .i64 (A.place : Nat)] 63) = wf := by
            rw [← HVS.out]; simp only [sets, Nat.zero_add, Nat.reduceAdd]; exact hwf
          clear hwf
          have HVL : Hid (VS.length = 10) := by show _ = _; rw [← HVS.out]; rfl
          have HXf : Hid (Box wf w.heap.size VS) := by rw [← hsw]; exact (HX5.out.sets VS HVL.out.symm).grown (by rw [HVL.out]; omega) (fr_alloc _ _ none) (by simp)
          have HRf : Hid (Rd wf b s q3) := by rw [← hsw]; exact (HR5.out.sets hbX VS 0).other (fr_alloc _ _ none) (by simp)
          have HOf : Hid (wf.ownsRow w3.heap.size 65 3 (.slice va na vc) na (termsV A.args)) := by rw [← hsw]; exact (own_sets hX3 VS 0 w5 HO5.out).alloc _
          have HGf : Hid (w.grownBy wf (some b)) := by rw [← hsw]; exact fr_both (fr_sets (Nat.le_refl _) VS 0 w5 HG5.out) (fr_alloc _ _ _)
          clear hsw x0 x1 x2 x3 x4 x5 x6 x7 x8 x9 y0 y1 y2 y3 y4 y5 y6 y7 y8 y9
          have hvs := HVS.out
          subst hvs
          have x0 := HXf.out.c 0 _ rfl
          have x1 := HXf.out.c 1 _ rfl
          have x2 := HXf.out.c 2 _ rfl
          have x3 := HXf.out.c 3 _ rfl
          have x4 := HXf.out.c 4 _ rfl
          have x5 := HXf.out.c 5 _ rfl
          have x6 := HXf.out.c 6 _ rfl
          have x7 := HXf.out.c 7 _ rfl
          have x8 := HXf.out.c 8 _ rfl
          have x9 := HXf.out.c 9 _ rfl
          refine bodyPost_ret (v := .tuple #[.agg ([.int .i64 0, .string SN, .slice va na vc, .int .i64 (A.place : Nat), .bool false, .string { data := #[] }, .int .i64 0, .bool false, .string { data := #[] }, .int .i64 0] : List Value).toArray, .nilIface]) (by simp [results, Tryz.results81, go_sem, x0, x1, x2, x3, x4, x5, x6, x7, x8, x9]) rfl ⟨?_, HGf.out⟩
          rw [HT.out]
          refine ⟨_, by unfold partV; rw [HSN.out]; rfl, ?_, HRf.out⟩
          show World.ownsRow _ _ _ _ _ A.args.length _
          rw [HNA.out]; exact own_lower HOf.out (by omega)
      | some kq =>
        have HTP : Hid (partF s.data.toList p = compP s.data.toList p) := partF_cmp _ _ HNN.out (by rw [HB.out, HK.out]; rfl)
        go_wp2_with fail
        refine (pcomparison_any b s p L T M _ HR3.out HE3.out hb hp hs).mono ?_
        rintro e w5 ⟨ha, HFR⟩
        have HX5 : Hid (Box w5 w.heap.size partZ) := HX3.out.grown (by simp [partZ]) HFR (by simp; omega)
        have HG5 : Hid (w.grownBy w5 (some b)) := fr_both HG3.out HFR
        have hX3 : w.heap.size < w3.heap.size := HX3.out.lt (by simp [partZ])
        have hX5 : w.heap.size < w5.heap.size := HX5.out.lt (by simp [partZ])
        clear HFR
        obtain ⟨F, HF⟩ : ∃ F, Hid (compP s.data.toList p = F) := ⟨_, (rfl : _ = _)⟩
        rw [HF.out] at ha HTP
        have x0 := HX5.out.c 0 _ rfl
        have x1 := HX5.out.c 1 _ rfl
        have x2 := HX5.out.c 2 _ rfl
        have x3 := HX5.out.c 3 _ rfl
        have x4 := HX5.out.c 4 _ rfl
        have x5 := HX5.out.c 5 _ rfl
        have x6 := HX5.out.c 6 _ rfl
        have x7 := HX5.out.c 7 _ rfl
        have x8 := HX5.out.c 8 _ rfl
        have x9 := HX5.out.c 9 _ rfl
        have y0 := HX5.out.f 0 _ rfl
        have y1 := HX5.out.f 1 _ rfl
        have y2 := HX5.out.f 2 _ rfl
        have y3 := HX5.out.f 3 _ rfl
        have y4 := HX5.out.f 4 _ rfl
        have y5 := HX5.out.f 5 _ rfl
        have y6 := HX5.out.f 6 _ rfl
        have y7 := HX5.out.f 7 _ rfl
        have y8 := HX5.out.f 8 _ rfl
        have y9 := HX5.out.f 9 _ rfl
        cases F with
        | error er =>
          obtain ⟨ec, x⟩ := er
          have HT : Hid (partF s.data.toList p = .error (ec, x)) := HTP.out
          obtain ⟨k, nm, va, nn, c, pl, b1, t1, i1, b2, t2, i2, rfl⟩ := ha
          unfold errV
          go_wp2
          generalize hwf : World.setCell _ _ _ = wf
          obtain ⟨VS, HVS⟩ : ∃ VS : List Value, Hid (([.int .i64 k, .string nm, .slice va nn c, .int .i64 pl, .bool b1, .string t1, .int .i64 i1, .bool b2, .string t2, .int .i64 i2] : List Value) = VS) := ⟨_, (rfl : _ = _)⟩
          have hsw : sets w5 w.heap.size 0 VS = wf := by
            rw [← HVS.out]; simp only [sets, Nat.zero_add, Nat.reduceAdd]; exact hwf
          clear hwf
          have HVL : Hid (VS.length = 10) := by show _ = _; rw [← HVS.out]; rfl
          have HXf : Hid (Box wf w.heap.size VS) := by rw [← hsw]; exact HX5.out.sets VS HVL.out.symm
          have HGf : Hid (w.grownBy wf (some b)) := by rw [← hsw]; exact fr_sets (Nat.le_refl _) VS 0 w5 HG5.out
          clear hsw x0 x1 x2 x3 x4 x5 x6 x7 x8 x9 y0 y1 y2 y3 y4 y5 y6 y7 y8 y9
          have hvs := HVS.out
          subst hvs
          have x0 := HXf.out.c 0 _ rfl
          have x1 := HXf.out.c 1 _ rfl
          have x2 := HXf.out.c 2 _ rfl
          have x3 := HXf.out.c 3 _ rfl
          have x4 := HXf.out.c 4 _ rfl
          have x5 := HXf.out.c 5 _ rfl
          have x6 := HXf.out.c 6 _ rfl
          have x7 := HXf.out.c 7 _ rfl
          have x8 := HXf.out.c 8 _ rfl
          have x9 := HXf.out.c 9 _ rfl
          refine bodyPost_ret (v := .tuple #[.agg ([.int .i64 k, .string nm, .slice va nn c, .int .i64 pl, .bool b1, .string t1, .int .i64 i1, .bool b2, .string t2, .int .i64 i2] : List Value).toArray, .iface 115 (.agg #[.iface 338 (.pointer (some (errA L T M ec))), .int .i64 (x : Nat)])]) (by simp [results, Tryz.results81, go_sem, x0, x1, x2, x3, x4, x5, x6, x7, x8, x9]) rfl ⟨?_, HGf.out⟩
          rw [HT.out]; exact ⟨_, _, _, _, _, _, _, _, _, _, _, _, rfl⟩
        | ok pq =>
          obtain ⟨P, q3⟩ := pq
          have HT : Hid (partF s.data.toList p = .ok (P, q3)) := HTP.out
          obtain ⟨v, rfl, hown, hrd⟩ := ha
          obtain ⟨va, vc, rfl⟩ := own_form hown
          have HO5 := hide hown
          have HR5 := hide hrd
          clear hown hrd
          obtain ⟨n1, HN1⟩ : ∃ n1, Hid (str P.atom.name = n1) := ⟨_, (rfl : _ = _)⟩
          obtain ⟨l1, HL1⟩ : ∃ l1, Hid (str P.left.text = l1) := ⟨_, (rfl : _ = _)⟩
          obtain ⟨r1, HR1⟩ : ∃ r1, Hid (str P.right.text = r1) := ⟨_, (rfl : _ = _)⟩
          obtain ⟨na, HNA⟩ : ∃ na, Hid (P.atom.args.length = na) := ⟨_, (rfl : _ = _)⟩
          rw [HNA.out] at HO5 ⊢
          have HPV : Hid (partV P (.slice va na vc) = [.int .i64 (P.kind : Nat), .string n1, .slice va na vc, .int .i64 (P.atom.place : Nat), .bool P.left.isVar, .string l1, .int .i64 (P.left.place : Nat), .bool P.right.isVar, .string r1, .int .i64 (P.right.place : Nat)]) := by show _ = _; unfold partV; rw [HN1.out, HL1.out, HR1.out]
          rw [show (partV P (.slice va na vc)).toArray = #[.int .i64 (P.kind : Nat), .string n1, .slice va na vc, .int .i64 (P.atom.place : Nat), .bool P.left.isVar, .string l1, .int .i64 (P.left.place : Nat), .bool P.right.isVar, .string r1, .int .i64 (P.right.place : Nat)] from by rw [HPV.out]]
          go_wp2
          generalize hwf : World.setCell _ _ _ = wf
          obtain ⟨VS, HVS⟩ : ∃ VS : List Value, Hid (([.int .i64 (P.kind : Nat), .string n1, .slice va na vc, .int .i64 (P.atom.place : Nat), .bool P.left.isVar, .string l1, .int .i64 (P.left.place : Nat), .bool P.right.isVar, .string r1, .int .i64 (P.right.place : Nat)] : List Value) = VS) := ⟨_, (rfl : _ = _)⟩
          have hsw : sets w5 w.heap.size 0 VS = wf := by
            rw [← HVS.out]; simp only [sets, Nat.zero_add, Nat.reduceAdd]; exact hwf
          clear hwf
          have HVL : Hid (VS.length = 10) := by show _ = _; rw [← HVS.out]; rfl
          have HXf : Hid (Box wf w.heap.size VS) := by rw [← hsw]; exact HX5.out.sets VS HVL.out.symm
          have HRf : Hid (Rd wf b s q3) := by rw [← hsw]; exact HR5.out.sets hbX VS 0
          have HOf : Hid (wf.ownsRow w3.heap.size 65 3 (.slice va na vc) na (termsV P.atom.args)) := by rw [← hsw]; exact own_sets hX3 VS 0 w5 HO5.out
          have HGf : Hid (w.grownBy wf (some b)) := by rw [← hsw]; exact fr_sets (Nat.le_refl _) VS 0 w5 HG5.out
          clear hsw x0 x1 x2 x3 x4 x5 x6 x7 x8 x9 y0 y1 y2 y3 y4 y5 y6 y7 y8 y9
          have hvs := HVS.out
          subst hvs
          have x0 := HXf.out.c 0 _ rfl
          have x1 := HXf.out.c 1 _ rfl
          have x2 := HXf.out.c 2 _ rfl
          have x3 := HXf.out.c 3 _ rfl
          have x4 := HXf.out.c 4 _ rfl
          have x5 := HXf.out.c 5 _ rfl
          have x6 := HXf.out.c 6 _ rfl
          have x7 := HXf.out.c 7 _ rfl
          have x8 := HXf.out.c 8 _ rfl
          have x9 := HXf.out.c 9 _ rfl
          refine bodyPost_ret (v := .tuple #[.agg ([.int .i64 (P.kind : Nat), .string n1, .slice va na vc, .int .i64 (P.atom.place : Nat), .bool P.left.isVar, .string l1, .int .i64 (P.left.place : Nat), .bool P.right.isVar, .string r1, .int .i64 (P.right.place : Nat)] : List Value).toArray, .nilIface]) (by simp [results, Tryz.results81, go_sem, x0, x1, x2, x3, x4, x5, x6, x7, x8, x9]) rfl ⟨?_, HGf.out⟩
          rw [HT.out]
          refine ⟨_, by rw [HPV.out], ?_, HRf.out⟩
          rw [HNA.out]; exact own_lower HOf.out (by omega)
end Go.Proofs.YtdfbjnachakkhaaGreatDoor
