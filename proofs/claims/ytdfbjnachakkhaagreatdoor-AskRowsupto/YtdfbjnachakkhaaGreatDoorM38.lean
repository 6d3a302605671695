import Derived.Test.YtdfbjnachakkhaaGreatDoorM28
namespace Go.Proofs.YtdfbjnachakkhaaGreatDoor
open Go.ChangeShapes Go.WideShapes Go.ChangeAt Go.RowKit
set_option linter.unusedVariables false
/-- what Tidy leaves -/
def Tidied (base : Nat) (w : World) (name : ByteArray) (ar : Int) (t : Nat × Nat × List (List (List UInt8))) (e : Ending) (w' : World) : Prop :=
  if t.1 = 0 then ∃ v vs, e = .returned (.tuple #[.agg #[.string name, .int .i64 ar, v], .int .i64 0, .int .i64 0]) ∧ w'.ownsRow base 28 1 v vs.length vs ∧ vs.length = t.2.2.length ∧ ∀ (i : Nat) (x : Value) (r : List (List UInt8)), vs[i]? = some x → t.2.2[i]? = some r → Strs w x r
  else e = .returned (.tuple #[.agg #[.string { data := #[] }, .int .i64 0, .slice none 0 0], .int .i64 (t.1 : Nat), .int .i64 (t.2.1 : Nat)])
theorem tidied_bad {base : Nat} {w : World} {name : ByteArray} {ar : Int} {t : Nat × Nat × List (List (List UInt8))} {w' : World} {a b : Int} (e i : Nat) (l : List (List (List UInt8))) (h : t = (e, i, l)) (he : e ≠ 0) (ha : a = e) (hb : b = i) :
    Tidied base w name ar t (.returned (.tuple #[.agg #[.string { data := #[] }, .int .i64 0, .slice none 0 0], .int .i64 a, .int .i64 b])) w' := by
  subst h ha hb; unfold Tidied; rw [if_neg he]
theorem ins_length (L : List (List (List UInt8))) (r : List (List UInt8)) : (ins L r).length ≤ L.length + 1 := by
  unfold ins; split
  · omega
  · simp; omega
theorem foldl_len (rows L : List (List (List UInt8))) : (rows.foldl ins L).length ≤ L.length + rows.length := by
  induction rows generalizing L with
  | nil => simp
  | cons r rest ih =>
    have h1 := ih (ins L r)
    have h2 := ins_length L r
    simp only [List.foldl_cons, List.length_cons]; omega
theorem sortU_len (rows : List (List (List UInt8))) : (sortU rows).length ≤ rows.length := by
  have := foldl_len rows []
  simpa [sortU] using this
theorem own_base {w : World} {base base2 : Nat} {e : TypeId} {size : Nat} {v : Value} {n : Nat} {xs : List Value} (h : w.ownsRow base e size v n xs) (hb : base2 ≤ base) : w.ownsRow base2 e size v n xs := by
  refine ⟨h.1, ?_⟩
  rcases h.2 with h2 | ⟨g, cap, cur, h1, hg, r⟩
  · exact Or.inl h2
  · exact Or.inr ⟨g, cap, cur, h1, by omega, r⟩
theorem insV_fits {w : World} {us : List Value} {K : List (List (List UInt8))} {r : List (List UInt8)} {x : Value} (h : us.length = K.length ∧ ∀ (i : Nat) (y : Value) (q : List (List UInt8)), us[i]? = some y → K[i]? = some q → Strs w y q) (hx : Strs w x r) :
    (insV us K r x).length = (ins K r).length ∧ ∀ (i : Nat) (y : Value) (q : List (List UInt8)), (insV us K r x)[i]? = some y → (ins K r)[i]? = some q → Strs w y q := by
  unfold insV ins
  by_cases hm : r ∈ K
  · rw [if_pos hm, if_pos hm]; exact h
  · rw [if_neg hm, if_neg hm]
    have ha := ahead_le K r
    generalize ahead K r = a at *
    have l1 : (us.take a).length = a := by simp; omega
    have l2 : (K.take a).length = a := by simp; omega
    refine ⟨by simp; omega, fun i y q hy hq => ?_⟩
    rcases Nat.lt_trichotomy i a with c | c | c
    · rw [List.getElem?_append_left (by omega), List.getElem?_take_of_lt c] at hy hq
      exact h.2 i y q hy hq
    · subst c
      rw [List.getElem?_append_right (by omega)] at hy hq
      rw [l1, Nat.sub_self] at hy
      rw [l2, Nat.sub_self] at hq
      simp at hy hq
      subst hy hq
      exact hx
    · rw [List.getElem?_append_right (by omega)] at hy hq
      rw [l1] at hy
      rw [l2] at hq
      obtain ⟨d, hd⟩ : ∃ d, i - a = d + 1 := ⟨i - a - 1, by omega⟩
      rw [hd, List.getElem?_cons_succ, List.getElem?_drop] at hy hq
      exact h.2 (a + d) y q hy hq
set_option maxRecDepth 100000 in
set_option maxHeartbeats 2000000 in
theorem rtidy_any (name : ByteArray) (ar : Int) (rv : Value) (vs : List Value) (rows : List (List (List UInt8))) (w : World) (h : Rows2 w rv vs rows) (hn : name.size ≤ 140737488355328) (hrl : rows.length ≤ 1073741824) (hrr : ∀ r ∈ rows, r.length ≤ 1099511627776) :
    Calls Tryz.prog 4 #[.agg #[.string name, .int .i64 ar, rv]] w fun e w' => Tidied w.heap.size w name ar (tidy name.data.toList ar rows) e w' ∧ Below w.heap.size w w' := by
  have HH : Hid (Rows2 w rv vs rows) := h
  have HRR : Hid (∀ r ∈ rows, r.length ≤ 1099511627776) := hrr
  clear hrr
  obtain ⟨⟨a, cap, rfl, -⟩, -, -⟩ := h
  cases hnm : isName name.data.toList with
  | false =>
    have HT : Hid (tidy name.data.toList ar rows = (8, 0, [])) := by show _ = _; unfold tidy; rw [hnm]; rfl
    have HNM : Hid (isName name.data.toList = false) := hnm
    clear hnm
    go_enter Tryz.func4, Tryz.ntmps4
    go_wp2_with fail
    refine (risname_any name _ hn).mono ?_
    rintro e w1 ⟨rfl, rfl⟩
    rw [HNM.out]
    go_wp2
    refine bodyPost_ret (v := .tuple #[.agg #[.string { data := #[] }, .int .i64 0, .slice none 0 0], .int .i64 8, .int .i64 0]) (by simp [results, Tryz.results4, go_sem]) rfl ⟨tidied_bad 8 0 [] HT.out (by decide) rfl rfl, ?_⟩
    exact ((Below.refl _ _).alloc (Nat.le_refl _) _).alloc (by simp) _
  | true =>
    have HNM : Hid (isName name.data.toList = true) := hnm
    by_cases har : ar < 0 ∨ 8 < ar
    · have HT : Hid (tidy name.data.toList ar rows = (3, 0, [])) := by show _ = _; unfold tidy; rw [hnm, if_pos har]; rfl
      clear hnm
      rcases har with har | har
      all_goals
        go_enter Tryz.func4, Tryz.ntmps4
        go_wp2_with fail
        refine (risname_any name _ hn).mono ?_
        rintro e w1 ⟨rfl, rfl⟩
        rw [HNM.out]
        go_wp2
        refine bodyPost_ret (v := .tuple #[.agg #[.string { data := #[] }, .int .i64 0, .slice none 0 0], .int .i64 3, .int .i64 0]) (by simp [results, Tryz.results4, go_sem]) rfl ⟨tidied_bad 3 0 [] HT.out (by decide) rfl rfl, ?_⟩
        exact ((Below.refl _ _).alloc (Nat.le_refl _) _).alloc (by simp) _
    · obtain ⟨m, rfl⟩ := Int.eq_ofNat_of_zero_le (by omega : 0 ≤ ar)
      have hm8 : m ≤ 8 := by omega
      have HT : Hid (tidy name.data.toList m rows = match bad m 0 rows with | some (e, i) => (e, i, []) | none => if 2000 < (sortU rows).length then (7, 0, []) else (0, 0, sortU rows)) := by
        show _ = _; unfold tidy; rw [hnm, if_neg har, Int.toNat_natCast]; rfl
      clear hnm har
      rcases HH.out.1 with ⟨a2, cap2, hv2, hvs⟩
      cases hv2
      rcases hvs with ⟨rfl, _⟩ | ⟨b, off, rfl, hc⟩
      · have hr0 : rows = [] := List.eq_nil_of_length_eq_zero (by have := HH.out.2.1; simpa using this.symm)
        subst hr0
        have HT0 : Hid (tidy name.data.toList m [] = (0, 0, [])) := by show _ = _; rw [HT.out]; rfl
        go_enter Tryz.func4, Tryz.ntmps4
        go_wp2_with fail
        refine (risname_any name _ hn).mono ?_
        rintro e w1 ⟨rfl, rfl⟩
        rw [HNM.out]
        go_wp2
        refine wp_loop_rounds 1 ?_
        rw [rounds_succ]
        go_wp2
        refine bodyPost_ret (v := .tuple #[.agg #[.string name, .int .i64 m, .slice none 0 0], .int .i64 0, .int .i64 0]) (by simp [results, Tryz.results4, go_sem]) rfl ⟨?_, ?_⟩
        · rw [HT0.out]; exact ⟨_, [], rfl, World.ownsRow_nil _ _ _ _, rfl, fun i x r hx => by simp at hx⟩
        · exact ((Below.refl _ _).alloc (Nat.le_refl _) _).alloc (by simp) _
      · have HC : Hid (∀ (i : Nat) (x : Value), vs[i]? = some x → w.cell? ⟨b, off + i, none⟩ = some x) := hc
        have HLE : Hid (vs.length = rows.length) := HH.out.2.1
        have HIN : Hid (∀ (i : Nat) (x : Value) (r : List (List UInt8)), vs[i]? = some x → rows[i]? = some r → Strs w x r) := HH.out.2.2
        clear hc
        go_enter Tryz.func4, Tryz.ntmps4
        go_wp2_with fail
        refine (risname_any name _ hn).mono ?_
        rintro e w1 ⟨rfl, rfl⟩
        rw [HNM.out]
        go_wp2
        obtain ⟨W0, HW0⟩ : ∃ W0, Hid (W0 = (w.alloc (.cells #[.string name, .int .i64 m, .slice (some ⟨b, off, none⟩) vs.length cap] 24)).alloc (.cells #[.string { data := #[] }, .int .i64 0, .slice none 0 0] 24)) := ⟨_, rfl⟩
        have HB0 : Hid (Below w.heap.size w W0) := by rw [HW0.out]; exact ((Below.refl _ _).alloc (Nat.le_refl _) _).alloc (by simp) _
        have HZ0 : Hid (W0.heap.size = w.heap.size + 2) := by show _ = _; rw [HW0.out]; simp
        have HQ : Hid (W0.cell? ⟨w.heap.size, 0, none⟩ = some (.string name) ∧ W0.cell? ⟨w.heap.size, 1, none⟩ = some (.int .i64 m) ∧ W0.cell? ⟨w.heap.size, 2, none⟩ = some (.slice (some ⟨b, off, none⟩) vs.length cap)) := by
          rw [HW0.out]; exact ⟨by simp, by simp, by simp⟩
        have HP : Hid (W0.cell? ⟨w.heap.size + 1, 0, none⟩ = some (.string { data := #[] }) ∧ W0.cell? ⟨w.heap.size + 1, 1, none⟩ = some (.int .i64 0) ∧ W0.cell? ⟨w.heap.size + 1, 2, none⟩ = some (.slice none 0 0)) := by
          rw [HW0.out]; exact ⟨by simp, by simp, by simp⟩
        have HF : Hid (∀ i, W0.frozen? ⟨w.heap.size + 1, i, none⟩ = false) := by
          rw [HW0.out]; exact fun i => World.frozen?_alloc_at _ _ _ _ (by simp)
        rw [← HW0.out]
        clear HW0
        go_loopw [6, 7] (fun lv iv wr => ∃ (k : Nat) (us : List Value) (K : List (List (List UInt8))), k ≤ rows.length ∧ iv = .int .i64 k ∧ Hid (wr.ownsRow (w.heap.size + 2) 28 1 lv us.length us) ∧ Hid (us.length = K.length ∧ ∀ (i : Nat) (x : Value) (r : List (List UInt8)), us[i]? = some x → K[i]? = some r → Strs w x r) ∧ Hid (K = (rows.take k).foldl ins []) ∧ Hid (Rises m K) ∧ Hid (K.length ≤ k) ∧ Hid (bad m 0 rows = bad m k (rows.drop k)) ∧ Hid (∀ r ∈ rows.take k, r.length = m) ∧ Hid (Below (w.heap.size + 2) W0 wr)) (fun _ iv _ => rows.length - (intOf iv).toNat)
        case atStart => exact ⟨0, [], [], by omega, rfl, World.ownsRow_nil _ _ _ _, ⟨rfl, fun i x r hx => by simp at hx⟩, rfl, rises_nil m, Nat.le_refl _, rfl, fun r hr => by simp at hr, Below.refl _ _⟩
        case round =>
          obtain ⟨k, us, K, hk, rfl, HO, HUK, HK, HRK, HKL, HBD, HAL, HB⟩ := hrel
          have q0 := (HB.out.cell (p := ⟨w.heap.size, 0, none⟩) (show w.heap.size < w.heap.size + 2 by omega)).trans HQ.out.1
          have q1 := (HB.out.cell (p := ⟨w.heap.size, 1, none⟩) (show w.heap.size < w.heap.size + 2 by omega)).trans HQ.out.2.1
          have q2 := (HB.out.cell (p := ⟨w.heap.size, 2, none⟩) (show w.heap.size < w.heap.size + 2 by omega)).trans HQ.out.2.2
          have p0 := (HB.out.cell (p := ⟨w.heap.size + 1, 0, none⟩) (show w.heap.size + 1 < w.heap.size + 2 by omega)).trans HP.out.1
          have p1 := (HB.out.cell (p := ⟨w.heap.size + 1, 1, none⟩) (show w.heap.size + 1 < w.heap.size + 2 by omega)).trans HP.out.2.1
          have p2 := (HB.out.cell (p := ⟨w.heap.size + 1, 2, none⟩) (show w.heap.size + 1 < w.heap.size + 2 by omega)).trans HP.out.2.2
          have f0 := (HB.out.frozen (p := ⟨w.heap.size + 1, 0, none⟩) (show w.heap.size + 1 < w.heap.size + 2 by omega)).trans (HF.out 0)
          have f1 := (HB.out.frozen (p := ⟨w.heap.size + 1, 1, none⟩) (show w.heap.size + 1 < w.heap.size + 2 by omega)).trans (HF.out 1)
          have f2 := (HB.out.frozen (p := ⟨w.heap.size + 1, 2, none⟩) (show w.heap.size + 1 < w.heap.size + 2 by omega)).trans (HF.out 2)
          have HBW : Hid (Below w.heap.size w wr) := HB0.out.trans (HB.out.mono (by omega))
          have hvr : vs.length = rows.length := HLE.out
          have hvr2 : vs.length ≤ 1073741824 := by omega
          by_cases hlt : k < rows.length
          · have hltv : k < vs.length := by omega
            clear hvr
            have cx0 := HC.out k vs[k] (val_at hltv)
            have hst := HIN.out k _ _ (val_at hltv) (row_at hlt)
            have hbw : b < w.heap.size := World.block_lt_of_cell? w ⟨b, off + k, none⟩ cx0
            have cx := (HBW.out.cell (p := ⟨b, off + k, none⟩) hbw).trans cx0
            clear cx0
            obtain ⟨row, HRW⟩ : ∃ row, Hid (row = rows[k]) := ⟨rows[k], rfl⟩
            obtain ⟨x, HX⟩ : ∃ x, Hid (x = vs[k]) := ⟨vs[k], rfl⟩
            rw [← HRW.out, ← HX.out] at hst
            rw [← HX.out] at cx
            have hrowl : row.length ≤ 1099511627776 := by rw [HRW.out]; exact HRR.out _ (List.getElem_mem hlt)
            have HBK : Hid (bad m 0 rows = if row.length = m then (if row.all (fun t => decide (t.length ≤ 200)) then bad m (k + 1) (rows.drop (k + 1)) else some (1, k)) else some (9, k)) := by
              show _ = _
              rw [HBD.out, List.drop_eq_getElem_cons hlt, bad, HRW.out]
            have HST : Hid (Strs w x row) := hst
            obtain ⟨ax, capx, hxe, hxc⟩ := hst
            have HXC : Hid ((row = [] ∧ (ax = none → capx = 0)) ∨ ∃ b off, ax = some ⟨b, off, none⟩ ∧ ∀ (i : Nat) (t : List UInt8), row[i]? = some t → w.cell? ⟨b, off + i, none⟩ = some (.string (str t))) := hxc
            clear hxc
            subst hxe
            by_cases hrm : row.length = m
            · have HRM : Hid (row.length = m) := hrm
              have hne : ((row.length : Int) != (m : Int)) = false := by simp [hrm]
              have hpx : ∀ (j : Nat) (t : List UInt8), row[j]? = some t → ∃ bx ox, ax = some ⟨bx, ox, none⟩ ∧ w.cell? ⟨bx, ox + j, none⟩ = some (.string (str t)) := by
                intro j t ht
                rcases HXC.out with ⟨hr, _⟩ | ⟨bx, ox, hax, hcx⟩
                · rw [hr] at ht; simp at ht
                · exact ⟨bx, ox, hax, hcx j t ht⟩
              have HPX : Hid (∀ (j : Nat) (t : List UInt8), row[j]? = some t → ∃ bx ox, ax = some ⟨bx, ox, none⟩ ∧ w.cell? ⟨bx, ox + j, none⟩ = some (.string (str t))) := hpx
              clear hrm hpx
              go_wp2
              go_quiet (fail)
              go_wp2
              go_loop [8] (fun jv => ∃ j : Nat, j ≤ m ∧ jv = .int .i64 j ∧ Hid (∀ t ∈ row.take j, t.length ≤ 200)) (fun jv => m - (intOf jv).toNat)
              case atStart => exact ⟨0, by omega, rfl, fun t ht => by simp at ht⟩
              case round =>
                obtain ⟨j, hj, rfl, HJ⟩ := hrel
                by_cases hjm : j < m
                · have hjr : j < row.length := by have := HRM.out; omega
                  obtain ⟨bx, ox, rfl, ct0⟩ := HPX.out j row[j] (get_at hjr)
                  have ct : wr.cell? ⟨bx, ox + j, none⟩ = some (.string (str row[j])) := (HBW.out.cell (p := ⟨bx, ox + j, none⟩) (World.block_lt_of_cell? w ⟨bx, ox + j, none⟩ ct0)).trans ct0
                  clear ct0
                  obtain ⟨tj, HTJ⟩ : ∃ tj, Hid (tj = row[j]) := ⟨row[j], rfl⟩
                  rw [← HTJ.out] at ct
                  obtain ⟨st, HSTJ⟩ : ∃ st, Hid (st = str tj) := ⟨str tj, rfl⟩
                  rw [← HSTJ.out] at ct
                  have hsz : st.size = tj.length := by rw [HSTJ.out, str_size]
                  by_cases h200 : 200 < tj.length
                  · have h200' : 200 < st.size := by omega
                    have HE : Hid (tidy name.data.toList m rows = (1, k, [])) := by
                      show _ = _
                      have hall : ¬ (row.all (fun t => decide (t.length ≤ 200)) = true) := by
                        intro ha
                        have := List.all_eq_true.1 ha tj (by rw [HTJ.out]; exact List.getElem_mem hjr)
                        simp at this; omega
                      rw [HT.out, HBK.out, if_pos HRM.out, if_neg hall]
                    clear hsz
                    go_wp2
                    refine bodyPost_ret (v := .tuple #[.agg #[.string { data := #[] }, .int .i64 0, .slice none 0 0], .int .i64 1, .int .i64 k]) (by simp [results, Tryz.results4, go_sem, p0, p1, p2]) rfl ⟨tidied_bad 1 k [] HE.out (by decide) rfl rfl, ?_⟩
                    exact (((below_drewN HBW.out _).setCell (p := ⟨w.heap.size + 1, 0, none⟩) (Nat.le_succ _) _).setCell (p := ⟨w.heap.size + 1, 1, none⟩) (Nat.le_succ _) _).setCell (p := ⟨w.heap.size + 1, 2, none⟩) (Nat.le_succ _) _
                  · have h200' : st.size ≤ 200 := by omega
                    have HJ2 : Hid (∀ t ∈ row.take (j + 1), t.length ≤ 200) := by
                      intro t ht
                      rw [take_next row j hjr] at ht
                      rcases List.mem_append.1 ht with ht | ht
                      · exact HJ.out t ht
                      · simp at ht; rw [ht, ← HTJ.out]; omega
                    clear hsz
                    go_wp2
                    go_round
                    case rel => exact ⟨j + 1, by omega, by go_num, HJ2⟩
                    case measure => simp [intOf]; omega
                · have HALL : Hid (row.all (fun t => decide (t.length ≤ 200)) = true) := by
                    have hrj : row.take j = row := List.take_of_length_le (by have := HRM.out; omega)
                    have h9 := HJ.out
                    rw [hrj] at h9
                    exact List.all_eq_true.2 (fun t ht => by simpa using h9 t ht)
                  have hkl : K.length ≤ 1073741824 := by have := HKL.out; omega
                  go_wp2_with fail
                  refine (put_any (w.heap.size + 2) _ _ us K row m _ (own_kept2 HO.out _) (by have h1 := HB.out.size; have h2 := HZ0.out; simp; omega) ⟨HUK.out.1, fun i y r hy hr => ((HUK.out.2 i y r hy hr).kept HBW.out).drewN _⟩ ((HST.out.kept HBW.out).drewN _) HRK.out HRM.out hkl (by omega)).mono ?_
                  rintro e w2 ⟨v2, rfl, hown2, hbl2⟩
                  have HO2 : Hid (w2.ownsRow (w.heap.size + 2) 28 1 v2 (insV us K row (.slice ax row.length capx)).length (insV us K row (.slice ax row.length capx))) := hown2
                  have HB2 : Hid (Below (w.heap.size + 2) W0 w2) := (below_drewN HB.out _).trans hbl2
                  have HUK2 : Hid ((insV us K row (.slice ax row.length capx)).length = (ins K row).length ∧ ∀ (i : Nat) (y : Value) (r : List (List UInt8)), (insV us K row (.slice ax row.length capx))[i]? = some y → (ins K row)[i]? = some r → Strs w y r) := insV_fits HUK.out HST.out
                  have HK2 : Hid (ins K row = (rows.take (k + 1)).foldl ins []) := by
                    show _ = _
                    rw [List.take_succ_eq_append_getElem hlt, List.foldl_append, ← HK.out, ← HRW.out]; rfl
                  have HRK2 : Hid (Rises m (ins K row)) := ins_rises m K row HRK.out HRM.out
                  have HKL2 : Hid ((ins K row).length ≤ k + 1) := by have h1 := HKL.out; have h2 := ins_length K row; show _ ≤ _; omega
                  have HBD2 : Hid (bad m 0 rows = bad m (k + 1) (rows.drop (k + 1))) := by show _ = _; rw [HBK.out, if_pos HRM.out, if_pos HALL.out]
                  have HAL2 : Hid (∀ r ∈ rows.take (k + 1), r.length = m) := by
                    intro r hr
                    rw [List.take_succ_eq_append_getElem hlt] at hr
                    rcases List.mem_append.1 hr with hr | hr
                    · exact HAL.out r hr
                    · simp at hr; rw [hr, ← HRW.out]; exact HRM.out
                  clear hown2 hbl2
                  go_wp2
                  go_roundw
                  case rel => exact ⟨k + 1, _, _, by omega, by go_num, HO2, HUK2, HK2, HRK2, HKL2, HBD2, HAL2, HB2⟩
                  case measure => simp [intOf]; omega
            · have hne : ((row.length : Int) != (m : Int)) = true := by simp; omega
              have HE : Hid (tidy name.data.toList m rows = (9, k, [])) := by show _ = _; rw [HT.out, HBK.out, if_neg hrm]
              clear hrm
              go_wp2
              go_quiet (fail)
              go_wp2
              refine bodyPost_ret (v := .tuple #[.agg #[.string { data := #[] }, .int .i64 0, .slice none 0 0], .int .i64 9, .int .i64 k]) (by simp [results, Tryz.results4, go_sem, p0, p1, p2]) rfl ⟨tidied_bad 9 k [] HE.out (by decide) rfl rfl, ?_⟩
              exact (((below_drewN HBW.out _).setCell (p := ⟨w.heap.size + 1, 0, none⟩) (Nat.le_succ _) _).setCell (p := ⟨w.heap.size + 1, 1, none⟩) (Nat.le_succ _) _).setCell (p := ⟨w.heap.size + 1, 2, none⟩) (Nat.le_succ _) _
          · have hk2 : k = rows.length := by omega
            have HKR : Hid (K = sortU rows) := by show _ = _; rw [HK.out, hk2, List.take_length]; rfl
            have HBN : Hid (bad m 0 rows = none) := by show _ = _; rw [HBD.out, hk2, List.drop_length]; rfl
            have hus : us.length = K.length := HUK.out.1
            have hul : us.length ≤ 1073741824 := by have := HKL.out; omega
            have hge : vs.length ≤ k := by omega
            clear hk2 hvr
            have hlast : ∀ lv, lv = u6 → (lv = .slice none 0 0 ∧ us = []) ∨ ∃ g cg, lv = .slice (some ⟨g, 0, none⟩) us.length cg := by
              intro lv hlv
              subst hlv
              rcases HO.out.2 with ⟨h1, h2⟩ | ⟨g, cg, cur, h1, _⟩
              · exact Or.inl ⟨h1, List.eq_nil_of_length_eq_zero h2⟩
              · exact Or.inr ⟨g, cg, h1⟩
            have HUS : Hid (us.length = K.length) := hus
            clear hus
            have HOW : Hid (wr.ownsRow w.heap.size 28 1 u6 us.length us) := own_base HO.out (by omega)
            by_cases h2000 : 2000 < us.length
            · have HE : Hid (tidy name.data.toList m rows = (7, 0, [])) := by
                show _ = _
                rw [HT.out, HBN.out, ← HKR.out]
                simp only
                rw [if_pos (by rw [← HUS.out]; exact h2000)]
              rcases hlast _ rfl with ⟨rfl, h0⟩ | ⟨g, cg, rfl⟩
              · rw [h0] at h2000; simp at h2000
              · go_wp2
                refine bodyPost_ret (v := .tuple #[.agg #[.string { data := #[] }, .int .i64 0, .slice none 0 0], .int .i64 7, .int .i64 0]) (by simp [results, Tryz.results4, go_sem, p0, p1, p2]) rfl ⟨tidied_bad 7 0 [] HE.out (by decide) rfl rfl, ?_⟩
                exact ((HBW.out.setCell (p := ⟨w.heap.size + 1, 0, none⟩) (Nat.le_succ _) _).setCell (p := ⟨w.heap.size + 1, 1, none⟩) (Nat.le_succ _) _).setCell (p := ⟨w.heap.size + 1, 2, none⟩) (Nat.le_succ _) _
            · have HE : Hid (tidy name.data.toList m rows = (0, 0, K)) := by
                show _ = _
                rw [HT.out, HBN.out, ← HKR.out]
                simp only
                rw [if_neg (by rw [← HUS.out]; exact h2000)]
              rcases hlast _ rfl with ⟨rfl, h0⟩ | ⟨g, cg, rfl⟩
              · subst h0
                go_wp2
                refine bodyPost_ret (v := .tuple #[.agg #[.string name, .int .i64 m, .slice none 0 0], .int .i64 0, .int .i64 0]) (by simp [results, Tryz.results4, go_sem, p0, p1, p2]) rfl ⟨?_, ?_⟩
                · rw [HE.out]
                  refine ⟨_, [], rfl, own_base (ownsRow_setCell_below (ownsRow_setCell_below (ownsRow_setCell_below HO.out (a := ⟨w.heap.size + 1, 0, none⟩) (Nat.lt_succ_self _) _) (a := ⟨w.heap.size + 1, 1, none⟩) (Nat.lt_succ_self _) _) (a := ⟨w.heap.size + 1, 2, none⟩) (Nat.lt_succ_self _) _) (by omega), HUK.out.1, HUK.out.2⟩
                · exact ((HBW.out.setCell (p := ⟨w.heap.size + 1, 0, none⟩) (Nat.le_succ _) _).setCell (p := ⟨w.heap.size + 1, 1, none⟩) (Nat.le_succ _) _).setCell (p := ⟨w.heap.size + 1, 2, none⟩) (Nat.le_succ _) _
              · go_wp2
                refine bodyPost_ret (v := .tuple #[.agg #[.string name, .int .i64 m, .slice (some ⟨g, 0, none⟩) us.length cg], .int .i64 0, .int .i64 0]) (by simp [results, Tryz.results4, go_sem, p0, p1, p2]) rfl ⟨?_, ?_⟩
                · rw [HE.out]
                  refine ⟨_, us, rfl, own_base (ownsRow_setCell_below (ownsRow_setCell_below (ownsRow_setCell_below HO.out (a := ⟨w.heap.size + 1, 0, none⟩) (Nat.lt_succ_self _) _) (a := ⟨w.heap.size + 1, 1, none⟩) (Nat.lt_succ_self _) _) (a := ⟨w.heap.size + 1, 2, none⟩) (Nat.lt_succ_self _) _) (by omega), HUK.out.1, HUK.out.2⟩
                · exact ((HBW.out.setCell (p := ⟨w.heap.size + 1, 0, none⟩) (Nat.le_succ _) _).setCell (p := ⟨w.heap.size + 1, 1, none⟩) (Nat.le_succ _) _).setCell (p := ⟨w.heap.size + 1, 2, none⟩) (Nat.le_succ _) _
end Go.Proofs.YtdfbjnachakkhaaGreatDoor
