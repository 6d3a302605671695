import Derived.Test.YtoelacloghkooaaGreatDoorM40
/-
  SyntaxJoined's walk.
-/
namespace Go.Proofs.YtoelacloghkooaaGreatDoor
open Go.ChangeShapes Go.WideShapes Go.ChangeAt Go.RowKit
set_option linter.unusedVariables false
theorem eOf_print (l : List UInt8) : eOf (printF l) = eOf (parseF l) := by
  rw [printF_is]
  cases parseF l with
  | error e => rfl
  | ok rs => rfl
theorem ok_of {l : List UInt8} (h : eOf (parseF l) = 0) : ∃ rs, parseF l = .ok rs := by
  cases hp : parseF l with
  | error er =>
    obtain ⟨e, x⟩ := er
    rw [hp] at h
    have h : e = 0 := h
    rcases parse_code _ _ _ hp with h1 | h1 | h1 <;> omega
  | ok rs => exact ⟨rs, rfl⟩
theorem sOf_len (l : List UInt8) : (sOf (printF l)).size ≤ 8502000 := by
  rw [printF_is]
  cases hp : parseF l with
  | error e => show (ByteArray.mk #[]).size ≤ 8502000; exact Nat.zero_le _
  | ok rs =>
    have hwf := parseF_wf _ _ hp
    have := rulesTake_len rs hwf.2 hwf.1 rs.length
    rw [List.take_length] at this
    show (str (rulesTextF rs)).size ≤ _
    rw [str_size]; exact this
theorem read_at (s : ByteArray) (w : World) : Calls Tryz.prog 11 #[.string s] w fun en w' => (∃ v x, en = .returned (.tuple #[v, .int .i64 (eOf (parseF s.data.toList) : Nat), .int .i64 x])) ∧ w.grownBy w' none := by
  refine (readRules_at s w).mono ?_
  rintro e w' ⟨h, hg⟩
  obtain ⟨v, hs, bs, rfl, -⟩ := rulesR_of h
  exact ⟨⟨v, _, rfl⟩, hg⟩
set_option maxRecDepth 100000 in
set_option maxHeartbeats 8000000 in
theorem joined_walk (s t : ByteArray) (L T M : Addr) (w : World) (hE : Errs w L T M) (hB : ErrB w L T M) (hgt : gTop ≤ w.heap.size) (hs : s.size ≤ 140737488355328) (ht : t.size ≤ 140737488355328) :
    Calls Tryz.prog 7 #[.string s, .string t] w fun e w' => e = .returned (.bool true) ∧ Below w.heap.size w w' := by
  have HE := hide hE
  have HB := hide hB
  clear hE hB
  obtain ⟨Z, HZ⟩ : ∃ Z, Hid (s ++ ({ data := #[10] } : ByteArray) ++ t = Z) := ⟨_, hide rfl⟩
  have HZD : Hid (Z.data.toList = s.data.toList ++ 10 :: t.data.toList) := by
    show _ = _
    rw [← HZ.out]
    conv => lhs; rw [← str_data s, ← str_data t]
    show (str s.data.toList ++ str [10] ++ str t.data.toList).data.toList = _
    rw [str_app, str_app, data_str]
    simp
  obtain ⟨A, HA⟩ : ∃ A, Hid (sOf (printF s.data.toList) = A) := ⟨_, hide rfl⟩
  obtain ⟨Bt, HBt⟩ : ∃ B, Hid (sOf (printF t.data.toList) = B) := ⟨_, hide rfl⟩
  have hA : A.size ≤ 8502000 := by rw [← HA.out]; exact sOf_len _
  have hBt : Bt.size ≤ 8502000 := by rw [← HBt.out]; exact sOf_len _
  obtain ⟨es, HES⟩ : ∃ es, Hid (eOf (parseF s.data.toList) = es) := ⟨_, hide rfl⟩
  obtain ⟨et, HET⟩ : ∃ et, Hid (eOf (parseF t.data.toList) = et) := ⟨_, hide rfl⟩
  obtain ⟨ej, HEJ⟩ : ∃ ej, Hid (eOf (parseF Z.data.toList) = ej) := ⟨_, hide rfl⟩
  have HP : Hid (∀ (s' : ByteArray) (w1 : World), w.grownBy w1 none → Calls Tryz.prog 8 #[.string s'] w1 fun en w' => (∃ x : Int, en = .returned (.tuple #[.string (sOf (printF s'.data.toList)), .int .i64 (eOf (parseF s'.data.toList) : Nat), .int .i64 x])) ∧ w1.grownBy w' none) := by
    intro s' w1 hg
    refine (print_at s' L T M w1 (HE.out.fresh hg) (HB.out.fresh hg) (Nat.le_trans hgt hg.size)).mono ?_
    rintro e w' ⟨rfl, hg'⟩
    rw [eOf_print]
    exact ⟨⟨_, rfl⟩, hg'⟩
  have HPS : Hid (Calls Tryz.prog 8 #[.string s] w fun en w' => (∃ x : Int, en = .returned (.tuple #[.string A, .int .i64 (es : Nat), .int .i64 x])) ∧ w.grownBy w' none) := by
    have h := HP.out s w (fr_refl _ _)
    rw [HA.out, HES.out] at h
    exact h
  have HPT : Hid (∀ w1 : World, w.grownBy w1 none → Calls Tryz.prog 8 #[.string t] w1 fun en w' => (∃ x : Int, en = .returned (.tuple #[.string Bt, .int .i64 (et : Nat), .int .i64 x])) ∧ w1.grownBy w' none) := by
    intro w1 hg
    have h := HP.out t w1 hg
    rw [HBt.out, HET.out] at h
    exact h
  have HRS : Hid (∀ w1 : World, Calls Tryz.prog 11 #[.string s] w1 fun en w' => (∃ v x, en = .returned (.tuple #[v, .int .i64 (es : Nat), .int .i64 x])) ∧ w1.grownBy w' none) := by
    intro w1; have h := read_at s w1; rw [HES.out] at h; exact h
  have HRT : Hid (∀ w1 : World, Calls Tryz.prog 11 #[.string t] w1 fun en w' => (∃ v x, en = .returned (.tuple #[v, .int .i64 (et : Nat), .int .i64 x])) ∧ w1.grownBy w' none) := by
    intro w1; have h := read_at t w1; rw [HET.out] at h; exact h
  have HRZ : Hid (∀ w1 : World, Calls Tryz.prog 11 #[.string (s ++ ({ data := #[10] } : ByteArray) ++ t)] w1 fun en w' => (∃ v x, en = .returned (.tuple #[v, .int .i64 (ej : Nat), .int .i64 x])) ∧ w1.grownBy w' none) := by
    intro w1; rw [HZ.out]; have h := read_at Z w1; rw [HEJ.out] at h; exact h
  go_enter Tryz.func7, Tryz.ntmps7
  go_wp2_with fail
  refine HPS.out.mono ?_
  rintro e w1 ⟨⟨x1, rfl⟩, hg⟩
  have HG1 := hide hg
  clear hg
  go_wp2_with fail
  refine (HPT.out w1 HG1.out).mono ?_
  rintro e w2 ⟨⟨x2, rfl⟩, hg⟩
  have HG2 := hide (fr_both HG1.out hg)
  clear hg
  go_wp2_with fail
  refine (HRS.out w2).mono ?_
  rintro e w3 ⟨⟨v3, x3, rfl⟩, hg⟩
  have HG3 := hide (fr_both HG2.out hg)
  clear hg
  go_wp2_with fail
  refine (HRT.out w3).mono ?_
  rintro e w4 ⟨⟨v4, x4, rfl⟩, hg⟩
  have HG4 := hide (fr_both HG3.out hg)
  clear hg
  go_wp2_with fail
  refine (num_at _ _).mono ?_
  rintro e w5 ⟨rfl, rfl⟩
  go_wp2_with fail
  refine (num_at _ _).mono ?_
  rintro e w6 ⟨rfl, rfl⟩
  go_wp2_with fail
  refine (HRZ.out _).mono ?_
  rintro e w7 ⟨⟨v7, x7, rfl⟩, hg⟩
  have HG7 := hide (fr_both HG4.out hg)
  clear hg
  by_cases h1 : es = 0
  · by_cases h2 : et = 0
    · by_cases h3 : ej = 0
      · obtain ⟨rs, hrs⟩ := ok_of (by rw [HES.out]; exact h1 : eOf (parseF s.data.toList) = 0)
        obtain ⟨ss, hss⟩ := ok_of (by rw [HET.out]; exact h2 : eOf (parseF t.data.toList) = 0)
        obtain ⟨us, hus⟩ := ok_of (by rw [HEJ.out]; exact h3 : eOf (parseF Z.data.toList) = 0)
        have HPJ : Hid (sOf (printF Z.data.toList) = A ++ Bt) := by
          show _ = _
          rw [HZD.out] at hus
          have hp1 : printF s.data.toList = .ok (rulesTextF rs) := by rw [printF_is, hrs]; rfl
          have hp2 : printF t.data.toList = .ok (rulesTextF ss) := by rw [printF_is, hss]; rfl
          rw [HZD.out, print_joined _ _ _ _ _ hp1 hp2 hus, ← HA.out, ← HBt.out, hp1, hp2]
          show str (rulesTextF rs ++ rulesTextF ss) = str (rulesTextF rs) ++ str (rulesTextF ss)
          rw [str_app]
        have HPZ : Hid (Calls Tryz.prog 8 #[.string (s ++ ({ data := #[10] } : ByteArray) ++ t)] w7 fun en w' => (∃ x : Int, en = .returned (.tuple #[.string (A ++ Bt), .int .i64 0, .int .i64 x])) ∧ w7.grownBy w' none) := by
          rw [HZ.out]
          have h := HP.out Z w7 HG7.out
          rw [HPJ.out, HEJ.out, h3] at h
          exact h
        subst h1 h2 h3
        clear hrs hss hus
        go_wp2_with fail
        refine HPZ.out.mono ?_
        rintro e w8 ⟨⟨x8, rfl⟩, hg⟩
        have HG8 := hide (fr_both HG7.out hg)
        clear hg
        go_wp2_with fail
        refine (num_at 0 _).mono ?_
        rintro e w9 ⟨rfl, rfl⟩
        go_wp2
        go_ret
        exact ⟨rfl, below_fresh HG8.out⟩
      · have e3 : ((ej : Int) != 0) = true := by rw [bne_iff_ne]; omega
        subst h1 h2
        clear h3
        go_wp2
        go_ret
        exact ⟨rfl, below_fresh HG7.out⟩
    · have e2 : ((et : Int) != 0) = true := by rw [bne_iff_ne]; omega
      subst h1
      clear h2
      go_wp2
      go_ret
      exact ⟨rfl, below_fresh HG7.out⟩
  · have e1 : ((es : Int) != 0) = true := by rw [bne_iff_ne]; omega
    clear h1
    go_wp2
    go_ret
    exact ⟨rfl, below_fresh HG7.out⟩
end Go.Proofs.YtoelacloghkooaaGreatDoor
