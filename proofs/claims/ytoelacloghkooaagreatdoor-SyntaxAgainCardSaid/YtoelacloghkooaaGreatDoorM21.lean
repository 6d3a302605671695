import Derived.Test.YtoelacloghkooaaGreatDoorM14
import Derived.Deep.RegionHeld3
/-
  The law's own words on terms: 'sameTerm', walked.
-/
namespace Go.Proofs.YtoelacloghkooaaGreatDoor
open Go.ChangeShapes Go.WideShapes Go.ChangeAt Go.RowKit
set_option linter.unusedVariables false
/-- the same term, with its place or without -/
def SameT (pl : Bool) (t u : PTerm) : Prop := t.isVar = u.isVar ∧ t.text = u.text ∧ (pl = true → t.place = u.place)
theorem SameT.refl (pl : Bool) (t : PTerm) : SameT pl t t := ⟨rfl, rfl, fun _ => rfl⟩
set_option maxRecDepth 100000 in
set_option maxHeartbeats 1000000 in
theorem sameTerm_raw (v : Bool) (x : ByteArray) (p1 p2 : Int) (pl : Bool) (w : World) (h : pl = true → p1 = p2) :
    Calls Tryz.prog 59 #[.agg #[.bool v, .string x, .int .i64 p1], .agg #[.bool v, .string x, .int .i64 p2], .bool pl] w fun e w' => e = .returned (.bool true) ∧ w.grownBy w' none := by
  cases pl with
  | true =>
    cases h rfl
    clear h
    go_enter Tryz.func59, Tryz.ntmps59
    go_wp2
    go_ret
    exact ⟨rfl, fr_both (fr_alloc _ _ _) (fr_alloc _ _ _)⟩
  | false =>
    clear h
    go_enter Tryz.func59, Tryz.ntmps59
    go_wp2
    go_ret
    exact ⟨rfl, fr_both (fr_alloc _ _ _) (fr_alloc _ _ _)⟩
theorem sameTerm_any (pl : Bool) (t u : PTerm) (w : World) (h : SameT pl t u) :
    Calls Tryz.prog 59 #[.agg #[.bool t.isVar, .string (str t.text), .int .i64 (t.place : Nat)], .agg #[.bool u.isVar, .string (str u.text), .int .i64 (u.place : Nat)], .bool pl] w fun e w' => e = .returned (.bool true) ∧ w.grownBy w' none := by
  obtain ⟨h1, h2, h3⟩ := h
  rw [h1, h2]
  exact sameTerm_raw _ _ _ _ _ _ (fun hp => by rw [h3 hp])
end Go.Proofs.YtoelacloghkooaaGreatDoor

/-
  The law's own words on atoms: 'sameAtom', walked.
-/
namespace Go.Proofs.YtoelacloghkooaaGreatDoor
open Go.ChangeShapes Go.WideShapes Go.ChangeAt Go.RowKit
set_option linter.unusedVariables false
/-- the same atom, with its places or without -/
structure SameA (pl : Bool) (a b : PAtom) : Prop where
  name : a.name = b.name
  place : pl = true → a.place = b.place
  len : a.args.length = b.args.length
  args : ∀ (i : Nat) (t u : PTerm), a.args[i]? = some t → b.args[i]? = some u → SameT pl t u
theorem SameA.refl (pl : Bool) (a : PAtom) : SameA pl a a := ⟨rfl, fun _ => rfl, rfl, fun i t u h1 h2 => by rw [h1] at h2; cases h2; exact SameT.refl pl t⟩
theorem termsV_at (l : List PTerm) (k j : Nat) (hk : k < l.length) (hj : j < 3) : (termsV l)[k * 3 + j]? = (termV l[k])[j]? := by
  induction l generalizing k with
  | nil => simp at hk
  | cons t l ih =>
    cases k with
    | zero => simp only [termsV, List.flatMap_cons, Nat.zero_mul, Nat.zero_add, List.getElem_cons_zero]; rw [List.getElem?_append_left (by simp [termV]; exact hj)]
    | succ k =>
      simp only [termsV, List.flatMap_cons, List.getElem_cons_succ]
      rw [List.getElem?_append_right (by simp [termV]; omega)]
      have := ih k (by simpa using hk)
      rw [termsV] at this
      rw [← this]
      congr 1
      simp [termV]; omega
theorem add_zero (g j : Nat) : (⟨g, 0, none⟩ : Addr).add j = ⟨g, j, none⟩ := by unfold Addr.add; split <;> simp_all
/-- where a row of terms lies -/
theorem own_terms {w : World} {base : Nat} {e : TypeId} {v : Value} {l : List PTerm} (h : w.ownsRow base e 3 v l.length (termsV l)) : (v = .slice none 0 0 ∧ l = []) ∨ ∃ g cap, v = .slice (some ⟨g, 0, none⟩) l.length cap ∧ base ≤ g ∧ g < w.heap.size ∧ ∀ k (hk : k < l.length), w.cell? ⟨g, k * 3, none⟩ = some (.bool l[k].isVar) ∧ w.cell? ⟨g, k * 3 + 1, none⟩ = some (.string (str l[k].text)) ∧ w.cell? ⟨g, k * 3 + 2, none⟩ = some (.int .i64 (l[k].place : Nat)) := by
  rcases h.2 with ⟨rfl, h0⟩ | ⟨g, cap, cur, rfl, hb, hg, rest⟩
  · exact Or.inl ⟨rfl, List.eq_nil_of_length_eq_zero h0⟩
  · refine Or.inr ⟨g, cap, rfl, hb, (Array.getElem?_eq_some_iff.1 hg).1, fun k hk => ⟨?_, ?_, ?_⟩⟩
    · have := h.cells rfl (k * 3 + 0) _ (by rw [termsV_at l k 0 hk (by omega)]; rfl)
      rw [add_zero] at this; exact this
    · have := h.cells rfl (k * 3 + 1) _ (by rw [termsV_at l k 1 hk (by omega)]; rfl)
      rw [add_zero] at this; exact this
    · have := h.cells rfl (k * 3 + 2) _ (by rw [termsV_at l k 2 hk (by omega)]; rfl)
      rw [add_zero] at this; exact this
/-- what lay there lies there still -/
theorem grown_cell {w w' : World} (hg : w.grownBy w' none) {x : Addr} {v : Value} (h : w.cell? x = some v) : w'.cell? x = some v :=
  (World.cell?_of_block (hg.block x.block (World.block_lt_of_cell? w x h) (by simp))).trans h
set_option maxRecDepth 100000 in
set_option maxHeartbeats 2000000 in
theorem sameAtom_any (pl : Bool) (a b : PAtom) (va vb : Value) (B1 B2 : Nat) (w : World) (h : SameA pl a b) (ha : w.ownsRow B1 44 3 va a.args.length (termsV a.args)) (hb : w.ownsRow B2 101 3 vb b.args.length (termsV b.args)) (hl : a.args.length ≤ 1073741824) :
    Calls Tryz.prog 29 #[.agg #[.string (str a.name), va, .int .i64 (a.place : Nat)], .agg #[.string (str b.name), vb, .int .i64 (b.place : Nat)], .bool pl] w fun e w' => e = .returned (.bool true) ∧ w.grownBy w' none := by
  obtain ⟨hn, hp, hlen, hargs⟩ := h
  rw [hn]
  have HARG := hide hargs
  clear hargs
  have key : ∀ (p1 p2 : Int), (pl = true → p1 = p2) → Calls Tryz.prog 29 #[.agg #[.string (str b.name), va, .int .i64 p1], .agg #[.string (str b.name), vb, .int .i64 p2], .bool pl] w fun e w' => e = .returned (.bool true) ∧ w.grownBy w' none := by
    intro p1 p2 hpp
    obtain ⟨aa, ca, hva⟩ := own_form ha
    obtain ⟨ab, cb, hvb⟩ := own_form hb
    subst hva hvb
    have HA := hide ha
    have HB := hide hb
    rw [← hlen]
    have HL := hide hlen
    generalize hN : a.args.length = N at *
    have HN := hide hN
    have hpb : pl = false ∨ (pl = true ∧ p1 = p2) := by
      cases pl with
      | false => exact Or.inl rfl
      | true => exact Or.inr ⟨rfl, hpp rfl⟩
    clear ha hb hlen hp hpp hN hn
    generalize str b.name = nm
    have HNB : Hid (b.args.length = N) := HL.out.symm
    generalize hla : a.args = la at *
    generalize hlb : b.args = lb at *
    clear hla hlb HL
    rcases hpb with rfl | ⟨rfl, rfl⟩
    · go_enter Tryz.func29, Tryz.ntmps29
      go_wp2_with fail
      generalize hw1 : World.alloc _ _ = w1
      have HC1 : Hid (w1.cell? ⟨w.heap.size, 1, none⟩ = some (.slice aa N ca) ∧ w1.cell? ⟨w.heap.size + 1, 1, none⟩ = some (.slice ab N cb)) := by rw [← hw1]; exact ⟨by simp, by simp⟩
      have HG1 : Hid (w.grownBy w1 none) := by rw [← hw1]; exact fr_both (fr_alloc _ _ _) (fr_alloc _ _ _)
      have HZ1 : Hid (w1.heap.size = w.heap.size + 2) := by show _ = _; rw [← hw1]; simp
      clear hw1
      go_loopw [7] (fun iv wr => ∃ k : Nat, k ≤ N ∧ iv = .int .i64 k ∧ Hid (w1.grownBy wr none)) (fun iv _ => N - (intOf iv).toNat)
      case atStart => exact ⟨0, by omega, rfl, fr_refl _ _⟩
      case round =>
        obtain ⟨k, hk, rfl, HG⟩ := hrel
        have hz0 : w.heap.size < w1.heap.size := by have := HZ1.out; omega
        have hz1 : w.heap.size + 1 < w1.heap.size := by have := HZ1.out; omega
        have c1 := grown_cell HG.out HC1.out.1
        have c2 := grown_cell HG.out HC1.out.2
        by_cases hlt : k < N
        · have hka : k < la.length := by have := HN.out; omega
          have hkb : k < lb.length := by have := HNB.out; omega
          have HT := hide (HARG.out k la[k] lb[k] (List.getElem?_eq_getElem hka) (List.getElem?_eq_getElem hkb))
          have hoa := HA.out
          have hob := HB.out
          rw [← HN.out] at hoa
          rw [HNB.out, ← HNB.out] at hob
          rcases own_terms hoa with ⟨h0, h1⟩ | ⟨ga, ca', hva, -, hga, hca⟩
          · rw [h1] at hka; simp at hka
          rcases own_terms hob with ⟨h0, h1⟩ | ⟨gb, cb', hvb, -, hgb, hcb⟩
          · rw [h1] at hkb; simp at hkb
          cases hva; cases hvb
          obtain ⟨a0, a1, a2⟩ := hca k hka
          obtain ⟨b0, b1, b2⟩ := hcb k hkb
          have kp : ∀ (x : Addr) (v : Value), w.cell? x = some v → wr.cell? x = some v := fun x v hx => grown_cell (fr_both HG1.out HG.out) hx
          replace a0 := kp _ _ a0; replace a1 := kp _ _ a1; replace a2 := kp _ _ a2
          replace b0 := kp _ _ b0; replace b1 := kp _ _ b1; replace b2 := kp _ _ b2
          clear kp hca hcb hoa hob hga hgb
          generalize la[k] = t at *
          generalize lb[k] = u at *
          have HC : Hid (∀ wx : World, (∃ n, wx = wr.drewN n) → Calls Tryz.prog 59 #[.agg #[.bool t.isVar, .string (str t.text), .int .i64 (t.place : Nat)], .agg #[.bool u.isVar, .string (str u.text), .int .i64 (u.place : Nat)], .bool false] wx fun e w' => e = .returned (.bool true) ∧ Hid (wr.grownBy w' none) ∧ w'.cell? ⟨w.heap.size, 1, none⟩ = some (.slice (some ⟨ga, 0, none⟩) N ca) ∧ w'.cell? ⟨w.heap.size + 1, 1, none⟩ = some (.slice (some ⟨gb, 0, none⟩) N cb) ∧ w'.cell? ⟨ga, k * 3, none⟩ = some (.bool t.isVar) ∧ w'.cell? ⟨ga, k * 3 + 1, none⟩ = some (.string (str t.text)) ∧ w'.cell? ⟨ga, k * 3 + 2, none⟩ = some (.int .i64 (t.place : Nat)) ∧ w'.cell? ⟨gb, k * 3, none⟩ = some (.bool u.isVar) ∧ w'.cell? ⟨gb, k * 3 + 1, none⟩ = some (.string (str u.text)) ∧ w'.cell? ⟨gb, k * 3 + 2, none⟩ = some (.int .i64 (u.place : Nat))) := by
            rintro wx ⟨n, rfl⟩
            refine (sameTerm_any false t u _ HT.out).mono ?_
            rintro e w2 ⟨rfl, hg⟩
            have hg2 : wr.grownBy w2 none := fr_both (fr_draws _ n _) hg
            exact ⟨rfl, hg2, grown_cell hg2 c1, grown_cell hg2 c2, grown_cell hg2 a0, grown_cell hg2 a1, grown_cell hg2 a2, grown_cell hg2 b0, grown_cell hg2 b1, grown_cell hg2 b2⟩
          go_wp2_with fail
          go_region_held3 (fun w' => w'.cell? ⟨w.heap.size, 1, none⟩ = some (.slice (some ⟨ga, 0, none⟩) N ca) ∧ w'.cell? ⟨w.heap.size + 1, 1, none⟩ = some (.slice (some ⟨gb, 0, none⟩) N cb) ∧ w'.cell? ⟨ga, k * 3, none⟩ = some (.bool t.isVar) ∧ w'.cell? ⟨ga, k * 3 + 1, none⟩ = some (.string (str t.text)) ∧ w'.cell? ⟨ga, k * 3 + 2, none⟩ = some (.int .i64 (t.place : Nat)) ∧ w'.cell? ⟨gb, k * 3, none⟩ = some (.bool u.isVar) ∧ w'.cell? ⟨gb, k * 3 + 1, none⟩ = some (.string (str u.text)) ∧ w'.cell? ⟨gb, k * 3 + 2, none⟩ = some (.int .i64 (u.place : Nat))) (go_keep) (first | (go_at_call 59; refine (HC.out _ ⟨_, rfl⟩).mono ?_; rintro e w2 ⟨rfl, HG2, k0, k1, k2, k3, k4, k5, k6, k7⟩))
          all_goals go_wp2
          all_goals go_roundw
          case rel => exact ⟨k + 1, by omega, by go_num, fr_both HG.out HG2.out⟩
          case measure => simp [intOf]; omega
        · go_wp2
          go_ret
          exact ⟨rfl, fr_both HG1.out HG.out⟩
    · go_enter Tryz.func29, Tryz.ntmps29
      go_wp2_with fail
      generalize hw1 : World.alloc _ _ = w1
      have HC1 : Hid (w1.cell? ⟨w.heap.size, 1, none⟩ = some (.slice aa N ca) ∧ w1.cell? ⟨w.heap.size + 1, 1, none⟩ = some (.slice ab N cb)) := by rw [← hw1]; exact ⟨by simp, by simp⟩
      have HG1 : Hid (w.grownBy w1 none) := by rw [← hw1]; exact fr_both (fr_alloc _ _ _) (fr_alloc _ _ _)
      have HZ1 : Hid (w1.heap.size = w.heap.size + 2) := by show _ = _; rw [← hw1]; simp
      clear hw1
      go_loopw [7] (fun iv wr => ∃ k : Nat, k ≤ N ∧ iv = .int .i64 k ∧ Hid (w1.grownBy wr none)) (fun iv _ => N - (intOf iv).toNat)
      case atStart => exact ⟨0, by omega, rfl, fr_refl _ _⟩
      case round =>
        obtain ⟨k, hk, rfl, HG⟩ := hrel
        have hz0 : w.heap.size < w1.heap.size := by have := HZ1.out; omega
        have hz1 : w.heap.size + 1 < w1.heap.size := by have := HZ1.out; omega
        have c1 := grown_cell HG.out HC1.out.1
        have c2 := grown_cell HG.out HC1.out.2
        by_cases hlt : k < N
        · have hka : k < la.length := by have := HN.out; omega
          have hkb : k < lb.length := by have := HNB.out; omega
          have HT := hide (HARG.out k la[k] lb[k] (List.getElem?_eq_getElem hka) (List.getElem?_eq_getElem hkb))
          have hoa := HA.out
          have hob := HB.out
          rw [← HN.out] at hoa
          rw [HNB.out, ← HNB.out] at hob
          rcases own_terms hoa with ⟨h0, h1⟩ | ⟨ga, ca', hva, -, hga, hca⟩
          · rw [h1] at hka; simp at hka
          rcases own_terms hob with ⟨h0, h1⟩ | ⟨gb, cb', hvb, -, hgb, hcb⟩
          · rw [h1] at hkb; simp at hkb
          cases hva; cases hvb
          obtain ⟨a0, a1, a2⟩ := hca k hka
          obtain ⟨b0, b1, b2⟩ := hcb k hkb
          have kp : ∀ (x : Addr) (v : Value), w.cell? x = some v → wr.cell? x = some v := fun x v hx => grown_cell (fr_both HG1.out HG.out) hx
          replace a0 := kp _ _ a0; replace a1 := kp _ _ a1; replace a2 := kp _ _ a2
          replace b0 := kp _ _ b0; replace b1 := kp _ _ b1; replace b2 := kp _ _ b2
          clear kp hca hcb hoa hob hga hgb
          generalize la[k] = t at *
          generalize lb[k] = u at *
          have HC : Hid (∀ wx : World, (∃ n, wx = wr.drewN n) → Calls Tryz.prog 59 #[.agg #[.bool t.isVar, .string (str t.text), .int .i64 (t.place : Nat)], .agg #[.bool u.isVar, .string (str u.text), .int .i64 (u.place : Nat)], .bool true] wx fun e w' => e = .returned (.bool true) ∧ Hid (wr.grownBy w' none) ∧ w'.cell? ⟨w.heap.size, 1, none⟩ = some (.slice (some ⟨ga, 0, none⟩) N ca) ∧ w'.cell? ⟨w.heap.size + 1, 1, none⟩ = some (.slice (some ⟨gb, 0, none⟩) N cb) ∧ w'.cell? ⟨ga, k * 3, none⟩ = some (.bool t.isVar) ∧ w'.cell? ⟨ga, k * 3 + 1, none⟩ = some (.string (str t.text)) ∧ w'.cell? ⟨ga, k * 3 + 2, none⟩ = some (.int .i64 (t.place : Nat)) ∧ w'.cell? ⟨gb, k * 3, none⟩ = some (.bool u.isVar) ∧ w'.cell? ⟨gb, k * 3 + 1, none⟩ = some (.string (str u.text)) ∧ w'.cell? ⟨gb, k * 3 + 2, none⟩ = some (.int .i64 (u.place : Nat))) := by
            rintro wx ⟨n, rfl⟩
            refine (sameTerm_any true t u _ HT.out).mono ?_
            rintro e w2 ⟨rfl, hg⟩
            have hg2 : wr.grownBy w2 none := fr_both (fr_draws _ n _) hg
            exact ⟨rfl, hg2, grown_cell hg2 c1, grown_cell hg2 c2, grown_cell hg2 a0, grown_cell hg2 a1, grown_cell hg2 a2, grown_cell hg2 b0, grown_cell hg2 b1, grown_cell hg2 b2⟩
          go_wp2_with fail
          go_region_held3 (fun w' => w'.cell? ⟨w.heap.size, 1, none⟩ = some (.slice (some ⟨ga, 0, none⟩) N ca) ∧ w'.cell? ⟨w.heap.size + 1, 1, none⟩ = some (.slice (some ⟨gb, 0, none⟩) N cb) ∧ w'.cell? ⟨ga, k * 3, none⟩ = some (.bool t.isVar) ∧ w'.cell? ⟨ga, k * 3 + 1, none⟩ = some (.string (str t.text)) ∧ w'.cell? ⟨ga, k * 3 + 2, none⟩ = some (.int .i64 (t.place : Nat)) ∧ w'.cell? ⟨gb, k * 3, none⟩ = some (.bool u.isVar) ∧ w'.cell? ⟨gb, k * 3 + 1, none⟩ = some (.string (str u.text)) ∧ w'.cell? ⟨gb, k * 3 + 2, none⟩ = some (.int .i64 (u.place : Nat))) (go_keep) (first | (go_at_call 59; refine (HC.out _ ⟨_, rfl⟩).mono ?_; rintro e w2 ⟨rfl, HG2, k0, k1, k2, k3, k4, k5, k6, k7⟩))
          all_goals go_wp2
          all_goals go_roundw
          case rel => exact ⟨k + 1, by omega, by go_num, fr_both HG.out HG2.out⟩
          case measure => simp [intOf]; omega
        · go_wp2
          go_ret
          exact ⟨rfl, fr_both HG1.out HG.out⟩
  exact key _ _ (fun e => by rw [hp e])
end Go.Proofs.YtoelacloghkooaaGreatDoor
