import Derived.Test.YtoelacloghkooaaGreatDoorM40
import Derived.Test.YtoelacloghkooaaGreatDoorErrIn
/-
  SyntaxRemarks' walk.
-/
namespace Go.Proofs.YtoelacloghkooaaGreatDoor
open Go.ChangeShapes Go.WideShapes Go.ChangeAt Go.RowKit
set_option linter.unusedVariables false
theorem not_ten (r : ByteArray) (h : ∀ j (hj : j < r.size), r[j].toNat ≠ 10) : (10 : UInt8) ∉ r.data.toList := by
  intro hm
  obtain ⟨j, hj, he⟩ := List.getElem_of_mem hm
  have hj2 : j < r.size := by simpa using hj
  refine h j hj2 ?_
  have : r[j] = 10 := he
  rw [this]; rfl
set_option maxRecDepth 100000 in
set_option maxHeartbeats 8000000 in
theorem remarks_walk (s r : ByteArray) (L T M : Addr) (w : World) (hE : Errs w L T M) (hB : ErrB w L T M) (hgt : gTop ≤ w.heap.size) (hs : s.size ≤ 140737488355328) (hr : r.size ≤ 140737488355328) :
    Calls Tryz.prog 6 #[.string s, .string r] w fun e w' => e = .returned (.bool true) ∧ Below w.heap.size w w' := by
  have HE := hide hE
  have HB := hide hB
  clear hE hB
  go_enter Tryz.func6, Tryz.ntmps6
  go_wp2_with fail
  go_loopw [5] (fun iv wr => ∃ k : Nat, k ≤ r.size ∧ iv = .int .i64 k ∧ w = wr ∧ Hid (∀ j (hj : j < r.size), j < k → r[j].toNat ≠ 10)) (fun iv _ => r.size - (intOf iv).toNat)
  case atStart => exact ⟨0, by omega, rfl, rfl, hide (fun j hj h => by omega)⟩
  case round =>
    obtain ⟨k, hk, rfl, rfl, HN⟩ := hrel
    by_cases hlt : k < r.size
    · have hc := byte_le r[k]
      by_cases h10 : r[k].toNat = 10
      · have e10 : ((r[k].toNat : Int) == 10) = true := by rw [h10]; rfl
        clear h10
        go_wp2
        go_ret
        exact ⟨rfl, Below.refl _ _⟩
      · have e10 : ((r[k].toNat : Int) == 10) = false := by rw [beq_eq_false_iff_ne]; omega
        have H10 := hide h10
        clear h10
        go_wp2
        go_roundw
        case rel => exact ⟨k + 1, by omega, by go_num, by first | trivial | rfl, hide (fun j hj h => by
          by_cases he : j = k
          · subst he; exact H10.out
          · exact HN.out j hj (by omega))⟩
        case measure => simp [intOf]; omega
    · have HNT : Hid ((10 : UInt8) ∉ r.data.toList) := not_ten r (fun j hj => HN.out j hj (by omega))
      have hls : s.data.toList.length = s.size := by simp
      have hlr : r.data.toList.length = r.size := by simp
      by_cases hlong : 20000 < s.size + 2 * r.size + 8
      · go_wp2
        go_ret
        exact ⟨rfl, Below.refl _ _⟩
      · have hshort : s.size + 2 * r.size + 8 ≤ 20000 := by omega
        have HA := hide (print_remark_ahead r.data.toList s.data.toList HNT.out (by omega))
        have HBH := hide (fun t => print_remark_behind r.data.toList s.data.toList t HNT.out (by omega))
        rw [hlr] at HA
        clear hlong hls hlr
        obtain ⟨Y, HY⟩ : ∃ Y, Hid (({ data := #[37] } : ByteArray) ++ r ++ ({ data := #[10, 9, 32] } : ByteArray) ++ s = Y) := ⟨_, hide rfl⟩
        have HYD : Hid (Y.data.toList = ([37] ++ r.data.toList ++ [10, 9, 32]) ++ s.data.toList) := by
          show _ = _
          rw [← HY.out]
          conv => lhs; rw [← str_data r, ← str_data s]
          show (str [37] ++ str r.data.toList ++ str [10, 9, 32] ++ str s.data.toList).data.toList = _
          rw [str_app, str_app, str_app, data_str]
        obtain ⟨Z, HZ⟩ : ∃ Z, Hid (s ++ ({ data := #[10, 37, 32] } : ByteArray) ++ r = Z) := ⟨_, hide rfl⟩
        have HZD : Hid (Z.data.toList = s.data.toList ++ 10 :: ([37, 32] ++ r.data.toList)) := by
          show _ = _
          rw [← HZ.out]
          conv => lhs; rw [← str_data r, ← str_data s]
          show (str s.data.toList ++ str [10, 37, 32] ++ str r.data.toList).data.toList = _
          rw [str_app, str_app, data_str]
          simp
        rw [← HYD.out] at HA
        have HBH2 : Hid (∀ t, printF s.data.toList = .ok t → printF Z.data.toList = .ok t) := by rw [HZD.out]; exact HBH.out
        clear HBH
        obtain ⟨Q, HQ⟩ : ∃ Q, Hid (parseF s.data.toList = Q) := ⟨_, hide rfl⟩
        have HPF : Hid (printF s.data.toList = printR Q) := by show _ = _; rw [printF_is, HQ.out]
        have HP1 := hide (print_at s L T M w HE.out HB.out hgt)
        have HRQ := hide (readRules_at s)
        rw [HPF.out] at HP1 HA
        rw [HQ.out] at HRQ
        have HPY : Hid (∀ w1, w.grownBy w1 none → Calls Tryz.prog 8 #[.string (({ data := #[37] } : ByteArray) ++ r ++ ({ data := #[10, 9, 32] } : ByteArray) ++ s)] w1 fun en w' => en = .returned (.tuple #[.string (sOf (printF Y.data.toList)), .int .i64 (eOf (printF Y.data.toList) : Nat), .int .i64 (xOf (printF Y.data.toList) : Nat)]) ∧ w1.grownBy w' none) := by
          intro w1 hg
          rw [HY.out]
          exact print_at Y L T M w1 (HE.out.fresh hg) (HB.out.fresh hg) (Nat.le_trans hgt hg.size)
        have HPZ : Hid (∀ w1, w.grownBy w1 none → Calls Tryz.prog 8 #[.string (s ++ ({ data := #[10, 37, 32] } : ByteArray) ++ r)] w1 fun en w' => en = .returned (.tuple #[.string (sOf (printF Z.data.toList)), .int .i64 (eOf (printF Z.data.toList) : Nat), .int .i64 (xOf (printF Z.data.toList) : Nat)]) ∧ w1.grownBy w' none) := by
          intro w1 hg
          rw [HZ.out]
          exact print_at Z L T M w1 (HE.out.fresh hg) (HB.out.fresh hg) (Nat.le_trans hgt hg.size)
        rw [HA.out] at HPY
        cases Q with
        | error er =>
          obtain ⟨ec, x⟩ := er
          have hne : (((ec : Nat) : Int) != 0) = true := by
            rw [bne_iff_ne]
            rcases parse_code _ _ _ HQ.out with h | h | h <;> omega
          have hxs : x ≤ 20000 := parse_err _ _ _ HQ.out
          have HP1' : Hid (Calls Tryz.prog 8 #[.string s] w fun en w' => en = .returned (.tuple #[.string { data := #[] }, .int .i64 (ec : Nat), .int .i64 (x : Nat)]) ∧ w.grownBy w' none) := HP1.out
          have HPY' : Hid (∀ w1, w.grownBy w1 none → Calls Tryz.prog 8 #[.string (({ data := #[37] } : ByteArray) ++ r ++ ({ data := #[10, 9, 32] } : ByteArray) ++ s)] w1 fun en w' => en = .returned (.tuple #[.string { data := #[] }, .int .i64 (ec : Nat), .int .i64 ((r.size + 4 + x : Nat) : Int)]) ∧ w1.grownBy w' none) := HPY.out
          have HRQ' : Hid (∀ w1, Calls Tryz.prog 11 #[.string s] w1 fun en w' => en = .returned (.tuple #[.slice none 0 0, .int .i64 (ec : Nat), .int .i64 (x : Nat)]) ∧ w1.grownBy w' none) := HRQ.out
          clear HP1 HPY HRQ
          obtain ⟨z, HZZ⟩ : ∃ z : Nat, Hid (r.size + 4 + x = z) := ⟨_, hide rfl⟩
          rw [HZZ.out] at HPY'
          have hzz : (x : Int) + (r.size : Int) + 4 = (z : Int) := by have := HZZ.out; omega
          obtain ⟨sz, HSZ⟩ : ∃ sz, Hid (sOf (printF Z.data.toList) = sz) := ⟨_, hide rfl⟩
          obtain ⟨ez, HEZ⟩ : ∃ ez, Hid (eOf (printF Z.data.toList) = ez) := ⟨_, hide rfl⟩
          obtain ⟨xz, HXZ⟩ : ∃ xz, Hid (xOf (printF Z.data.toList) = xz) := ⟨_, hide rfl⟩
          rw [HSZ.out, HEZ.out, HXZ.out] at HPZ
          go_wp2_with fail
          refine HP1'.out.mono ?_
          rintro e w1 ⟨rfl, hg⟩
          have HG1 := hide hg
          clear hg
          go_wp2_with fail
          refine (HPY'.out w1 HG1.out).mono ?_
          rintro e w2 ⟨rfl, hg⟩
          have HG2 := hide (fr_both HG1.out hg)
          clear hg
          go_wp2_with fail
          refine (HPZ.out w2 HG2.out).mono ?_
          rintro e w3 ⟨rfl, hg⟩
          have HG3 := hide (fr_both HG2.out hg)
          clear hg
          go_wp2_with fail
          refine (HRQ'.out w3).mono ?_
          rintro e w4 ⟨rfl, hg⟩
          have HG4 := hide (fr_both HG3.out hg)
          clear hg
          go_wp2_with fail
          refine (num_at _ _).mono ?_
          rintro e w5 ⟨rfl, rfl⟩
          go_wp2_with fail
          refine (num_at _ _).mono ?_
          rintro e w6 ⟨rfl, rfl⟩
          go_wp2
          go_ret
          exact ⟨rfl, below_fresh HG4.out⟩
        | ok rs =>
          have HZO := hide (HBH2.out (rulesTextF rs) (by rw [HPF.out]; rfl))
          rw [HZO.out] at HPZ
          obtain ⟨X, HX⟩ : ∃ X, Hid (str (rulesTextF rs) = X) := ⟨_, hide rfl⟩
          have HP1' : Hid (Calls Tryz.prog 8 #[.string s] w fun en w' => en = .returned (.tuple #[.string X, .int .i64 0, .int .i64 0]) ∧ w.grownBy w' none) := by
            have h := HP1.out
            have e1 : sOf (printR (.ok rs)) = X := HX.out
            rw [e1] at h
            exact h
          have HPY' : Hid (∀ w1, w.grownBy w1 none → Calls Tryz.prog 8 #[.string (({ data := #[37] } : ByteArray) ++ r ++ ({ data := #[10, 9, 32] } : ByteArray) ++ s)] w1 fun en w' => en = .returned (.tuple #[.string X, .int .i64 0, .int .i64 0]) ∧ w1.grownBy w' none) := by
            intro w1 hg
            have h := HPY.out w1 hg
            rw [← HX.out]
            exact h
          have HPZ' : Hid (∀ w1, w.grownBy w1 none → Calls Tryz.prog 8 #[.string (s ++ ({ data := #[10, 37, 32] } : ByteArray) ++ r)] w1 fun en w' => en = .returned (.tuple #[.string X, .int .i64 0, .int .i64 0]) ∧ w1.grownBy w' none) := by
            intro w1 hg
            have h := HPZ.out w1 hg
            rw [← HX.out]
            exact h
          have HRQ' : Hid (∀ w1, Calls Tryz.prog 11 #[.string s] w1 fun en w' => (∃ v, en = .returned (.tuple #[v, .int .i64 0, .int .i64 0])) ∧ w1.grownBy w' none) := by
            intro w1
            refine (HRQ.out w1).mono ?_
            rintro e w' ⟨⟨v, hs, bs, rfl, -⟩, hg⟩
            exact ⟨⟨v, rfl⟩, hg⟩
          clear HP1 HPY HPZ HRQ
          go_wp2_with fail
          refine HP1'.out.mono ?_
          rintro e w1 ⟨rfl, hg⟩
          have HG1 := hide hg
          clear hg
          go_wp2_with fail
          refine (HPY'.out w1 HG1.out).mono ?_
          rintro e w2 ⟨rfl, hg⟩
          have HG2 := hide (fr_both HG1.out hg)
          clear hg
          go_wp2_with fail
          refine (HPZ'.out w2 HG2.out).mono ?_
          rintro e w3 ⟨rfl, hg⟩
          have HG3 := hide (fr_both HG2.out hg)
          clear hg
          go_wp2_with fail
          refine (HRQ'.out w3).mono ?_
          rintro e w4 ⟨⟨v, rfl⟩, hg⟩
          have HG4 := hide (fr_both HG3.out hg)
          clear hg
          go_wp2_with fail
          refine (num_at _ _).mono ?_
          rintro e w5 ⟨rfl, rfl⟩
          go_wp2_with fail
          refine (num_at _ _).mono ?_
          rintro e w6 ⟨rfl, rfl⟩
          go_wp2_with fail
          refine (num_at _ _).mono ?_
          rintro e w7 ⟨rfl, rfl⟩
          go_wp2
          go_ret
          exact ⟨rfl, below_fresh HG4.out⟩
end Go.Proofs.YtoelacloghkooaaGreatDoor
