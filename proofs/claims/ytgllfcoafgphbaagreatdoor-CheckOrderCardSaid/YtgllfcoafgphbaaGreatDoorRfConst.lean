import Derived.Test.YtgllfcoafgphbaaGreatDoorM21
import Derived.Test.YtgllfcoafgphbaaGreatDoorM02
import Derived.Test.YtgllfcoafgphbaaGreatDoorM05
/-
  The document's Constant, walked.
-/
namespace Go.Proofs.YtgllfcoafgphbaaGreatDoor
open Go.ChangeShapes Go.WideShapes Go.ChangeAt Go.RowKit
set_option linter.unusedVariables false
theorem dig_nonot {l : List UInt8} (h : isDigB l = true) : l ≠ [110, 111, 116] := by rintro rfl; revert h; decide
theorem kind_dig {l : List UInt8} (h : isName l = false) : decide (wordKindF l = 3) = isDigB l := by
  unfold wordKindF
  cases hd : isDigB l with
  | true => rw [if_neg (dig_nonot hd), h, dig_novar hd]; rfl
  | false => split <;> (try split) <;> (try split) <;> simp_all
theorem app_one {w wr w4 : World} {o v4 : Value} {out : List UInt8} {ob : Obj} {c : UInt8} (HO : wr.ownsRow w.heap.size 5 1 o out.length (bs out)) (HG : w.grownBy wr none)
    (hown : w4.ownsRow w.heap.size 5 1 v4 (out.length + 1) (bs out ++ [.int .u8 (c.toNat : Int)])) (hg : (wr.alloc ob).grownBy w4 o.ownBlock) :
    w4.ownsRow w.heap.size 5 1 v4 (out ++ [c]).length (bs (out ++ [c])) ∧ w.grownBy w4 none := by
  refine ⟨?_, fr_own (fr_both HG (fr_alloc wr ob _)) (HO.alloc ob) (Nat.le_refl _) hg⟩
  rw [bs_snoc] at hown
  rw [List.length_append]; exact hown
theorem esc_step (s : ByteArray) (k : Nat) (h : k < s.size) : escF (s.data.toList.take (k + 1)) = escF (s.data.toList.take k) ++ escB s[k] := by
  rw [List.take_succ_eq_append_getElem (by simpa using h), escF_snoc]; rfl
theorem esc_lim (s : ByteArray) (k : Nat) : (escF (s.data.toList.take k)).length ≤ 2 * s.size := by
  have := escF_len (s.data.toList.take k)
  rw [List.length_take] at this
  have h2 : s.data.toList.length = s.size := by simp
  omega
set_option maxRecDepth 100000 in
set_option maxHeartbeats 4000000 in
/-- the loop's own part, and what is behind it -/
theorem rconst_any (s : ByteArray) (w : World) (hs : s.size ≤ 1073741824) :
    Calls Tryz.prog 113 #[.string s] w fun e w' => e = .returned (.string (str (constF s.data.toList))) ∧ w.grownBy w' none := by
  obtain ⟨i0, hi0, hz0, hz1, hz2⟩ := info_parts info5
  have HCF : Hid (constF s.data.toList = if isName s.data.toList || isDigB s.data.toList then s.data.toList else [34] ++ escF s.data.toList ++ [34]) := (rfl : _ = _)
  obtain ⟨N, HN⟩ : ∃ N, Hid (isName s.data.toList = N) := ⟨_, (rfl : _ = _)⟩
  obtain ⟨D, HD⟩ : ∃ D, Hid (isDigB s.data.toList = D) := ⟨_, (rfl : _ = _)⟩
  rw [HN.out, HD.out] at HCF
  go_enter Tryz.func113, Tryz.ntmps113
  go_wp2_with fail
  refine (risname_any s _ (by omega)).mono ?_
  rintro e w1 ⟨rfl, rfl⟩
  rw [HN.out]
  cases N with
  | true =>
    go_wp2
    go_ret
    exact ⟨ret_str (by rw [HCF.out]; simp [str_data]), fr_refl _ _⟩
  | false =>
    by_cases h0 : s.size = 0
    · have HD0 : Hid (D = false) := by
        have hs0 : s = { data := #[] } := by apply ByteArray.ext; apply Array.eq_empty_of_size_eq_zero; exact h0
        show _ = _; rw [← HD.out, hs0]; rfl
      have hD0 := HD0.out
      subst hD0
      have hne2 : s.toList = [] := by
        rw [toList_of]; apply List.eq_nil_of_length_eq_zero; rw [Array.length_toList]; exact h0
      have h3 : (s.toList != ([] : List UInt8)) = false := by rw [hne2]; rfl
      have hne : s.toList.isEmpty = true := by rw [hne2]; rfl
      clear hne2 HD0
      have HO0 : Hid (w.ownsRow w.heap.size 5 1 (.slice none 0 0) ([] : List UInt8).length (bs [])) := World.ownsRow_nil _ _ _ _
      have HG0 : Hid (w.grownBy w none) := fr_refl _ _
      go_wp2_with (at_builtin; refine wpList_append_own _ rfl _ _ 212 rfl w.heap.size 5 i0 (.int .u8 0) 1 1 Tryz.underlying212 hi0 hz0 hz1 hz2 rfl (by decide) _ _ _ rfl (HO0.out.alloc _) ⟨w.heap.size, 0, none⟩ 1 1 [.int .u8 ((34 : UInt8).toNat : Int)] rfl rfl ?c1 ?c2 ?c3 ?c4 ?c5 ?_)
      case c1 =>
        intro j' u hj'
        match j', hj' with
        | 0, hj' => simp at hj'; subst hj'; exact World.cell?_alloc_at _ _ _ _ rfl
      case c2 => intro u hu; simp at hu; subst hu; rfl
      case c3 => unfold maxLen; simp
      case c4 => simp
      case c5 => have := HG0.out.size; first | omega | (simp; done) | (simp; omega)
      intro v4 w4 hown4 hg4 _
      obtain ⟨a4, p4, rfl⟩ := own_form hown4
      obtain ⟨O4, G4⟩ := app_one (c := 34) HO0.out HG0.out hown4 hg4
      have HO4 := hide O4
      have HG4 := hide G4
      clear O4 G4 hown4 hg4
      simp only [List.nil_append] at HO4 ⊢
      obtain ⟨O, HOO⟩ : ∃ O : Nat → List UInt8, Hid (O = fun k => [34] ++ escF (s.data.toList.take k)) := ⟨fun k => [34] ++ escF (s.data.toList.take k), hide rfl⟩
      have HOL : Hid (∀ k, (O k).length ≤ 1 + 2 * s.size) := fun k => by rw [HOO.out]; have := esc_lim s k; simp only [List.length_append, List.length_cons, List.length_nil]; omega
      have HOS : Hid (∀ k (h : k < s.size), O (k + 1) = O k ++ escB s[k]) := fun k h => by rw [HOO.out]; simp only []; rw [esc_step s k h, List.append_assoc]
      go_wp2_with fail
      go_loopw [4, 5, 6] (fun o iv cv wr => ∃ k : Nat, k ≤ s.size ∧ iv = .int .i64 k ∧ Hid (wr.ownsRow w.heap.size 5 1 o (O k).length (bs (O k))) ∧ Hid (w.grownBy wr none)) (fun _ iv _ _ => s.size - (intOf iv).toNat)
      case atStart => exact ⟨0, by omega, rfl, by rw [HOO.out]; exact HO4.out, HG4⟩
      case round =>
        obtain ⟨k, hk, rfl, HO, HG⟩ := hrel
        obtain ⟨va, vc, rfl⟩ := own_form HO.out
        obtain ⟨ok, HOK⟩ : ∃ ok, Hid (O k = ok) := ⟨_, (rfl : _ = _)⟩
        have hol : ok.length ≤ 1 + 2 * s.size := by rw [← HOK.out]; exact HOL.out k
        rw [HOK.out] at HO ⊢
        clear HO4 HG4
        by_cases hlt : k < s.size
        · exfalso; omega
        · have HE : Hid (str (constF s.data.toList) = str (ok ++ [34])) := by
            show _ = _
            rw [HCF.out, ← HOK.out, HOO.out]
            simp only [Bool.or_self, Bool.false_eq_true, if_false]
            rw [List.take_of_length_le (by simp; omega)]
          go_wp2_with (at_builtin; refine wpList_append_own _ rfl _ _ 212 rfl w.heap.size 5 i0 (.int .u8 0) 1 1 Tryz.underlying212 hi0 hz0 hz1 hz2 rfl (by decide) _ _ _ rfl (HO.out.alloc _) ⟨wr.heap.size, 0, none⟩ 1 1 [.int .u8 ((34 : UInt8).toNat : Int)] rfl rfl ?c1 ?c2 ?c3 ?c4 ?c5 ?_)
          case c1 =>
            intro j' u hj'
            match j', hj' with
            | 0, hj' => simp at hj'; subst hj'; exact World.cell?_alloc_at _ _ _ _ rfl
          case c2 => intro u hu; simp at hu; subst hu; rfl
          case c3 => unfold maxLen; omega
          case c4 => omega
          case c5 => have := HG.out.size; first | omega | (simp; done) | (simp; omega)
          intro v5 w5 hown4 hg4 _
          obtain ⟨a5, p5, rfl⟩ := own_form hown4
          obtain ⟨O4, G4⟩ := app_one (c := 34) HO.out HG.out hown4 hg4
          have HO5 := hide O4
          have HG5 := hide G4
          clear O4 G4 hown4 hg4
          have hcv := own_string HO5.out
          go_wp2
          go_ret
          exact ⟨ret_str HE.out.symm, HG5.out⟩
    · have hpos : 0 < s.size := by omega
      have hne2 : ¬ s.toList = [] := by
        rw [toList_of]; intro g
        have := congrArg List.length g
        rw [List.length_nil, Array.length_toList] at this
        have h2 : s.size = 0 := this
        omega
      have hne : s.toList.isEmpty = false := by
        cases h : s.toList with
        | nil => exact absurd h hne2
        | cons a l => rfl
      have HKD := hide (kind_dig HN.out)
      rw [HD.out] at HKD
      clear h0
      go_wp2_with fail
      refine (rkind_any s _ hpos (by omega)).mono ?_
      rintro e w2 ⟨rfl, rfl⟩
      cases D with
      | true =>
        have hk3 : wordKindF s.data.toList = 3 := of_decide_eq_true HKD.out
        rw [hk3]
        clear hk3
        go_wp2
        go_ret
        exact ⟨ret_str (by rw [HCF.out]; simp [str_data]), fr_refl _ _⟩
      | false =>
        have hk3 : (((wordKindF s.data.toList : Nat) : Int) == 3) = false := by have := of_decide_eq_false HKD.out; rw [beq_eq_false_iff_ne]; omega
        generalize wordKindF s.data.toList = K at *
        clear HKD
        have HO0 : Hid (w.ownsRow w.heap.size 5 1 (.slice none 0 0) ([] : List UInt8).length (bs [])) := World.ownsRow_nil _ _ _ _
        have HG0 : Hid (w.grownBy w none) := fr_refl _ _
        go_wp2_with (at_builtin; refine wpList_append_own _ rfl _ _ 212 rfl w.heap.size 5 i0 (.int .u8 0) 1 1 Tryz.underlying212 hi0 hz0 hz1 hz2 rfl (by decide) _ _ _ rfl (HO0.out.alloc _) ⟨w.heap.size, 0, none⟩ 1 1 [.int .u8 ((34 : UInt8).toNat : Int)] rfl rfl ?c1 ?c2 ?c3 ?c4 ?c5 ?_)
        case c1 =>
          intro j' u hj'
          match j', hj' with
          | 0, hj' => simp at hj'; subst hj'; exact World.cell?_alloc_at _ _ _ _ rfl
        case c2 => intro u hu; simp at hu; subst hu; rfl
        case c3 => unfold maxLen; simp
        case c4 => simp
        case c5 => have := HG0.out.size; first | omega | (simp; done) | (simp; omega)
        intro v4 w4 hown4 hg4 _
        obtain ⟨a4, p4, rfl⟩ := own_form hown4
        obtain ⟨O4, G4⟩ := app_one (c := 34) HO0.out HG0.out hown4 hg4
        have HO4 := hide O4
        have HG4 := hide G4
        clear O4 G4 hown4 hg4
        simp only [List.nil_append] at HO4 ⊢
        obtain ⟨O, HOO⟩ : ∃ O : Nat → List UInt8, Hid (O = fun k => [34] ++ escF (s.data.toList.take k)) := ⟨fun k => [34] ++ escF (s.data.toList.take k), hide rfl⟩
        have HOL : Hid (∀ k, (O k).length ≤ 1 + 2 * s.size) := fun k => by rw [HOO.out]; have := esc_lim s k; simp only [List.length_append, List.length_cons, List.length_nil]; omega
        have HOS : Hid (∀ k (h : k < s.size), O (k + 1) = O k ++ escB s[k]) := fun k h => by rw [HOO.out]; simp only []; rw [esc_step s k h, List.append_assoc]
        go_wp2_with fail
        go_loopw [4, 5, 6] (fun o iv cv wr => ∃ k : Nat, k ≤ s.size ∧ iv = .int .i64 k ∧ Hid (wr.ownsRow w.heap.size 5 1 o (O k).length (bs (O k))) ∧ Hid (w.grownBy wr none)) (fun _ iv _ _ => s.size - (intOf iv).toNat)
        case atStart => exact ⟨0, by omega, rfl, by rw [HOO.out]; exact HO4.out, HG4⟩
        case round =>
          obtain ⟨k, hk, rfl, HO, HG⟩ := hrel
          obtain ⟨va, vc, rfl⟩ := own_form HO.out
          obtain ⟨ok, HOK⟩ : ∃ ok, Hid (O k = ok) := ⟨_, (rfl : _ = _)⟩
          have hol : ok.length ≤ 1 + 2 * s.size := by rw [← HOK.out]; exact HOL.out k
          rw [HOK.out] at HO ⊢
          clear HO4 HG4
          by_cases hlt : k < s.size
          · have hc := byte_le s[k]

            have HSTEP : Hid (O (k + 1) = ok ++ escB s[k]) := by show _ = _; rw [HOS.out k hlt, HOK.out]
            by_cases h34 : s[k].toNat = 34
            · have HE : Hid (O (k + 1) = (ok ++ [92]) ++ [s[k]]) := by
                show _ = _
                rw [HSTEP.out, show s[k] = 34 from UInt8.toNat_inj.1 h34]
                simp [escB]
              have e34 : ((s[k].toNat : Int) == 34) = true := by rw [h34]; rfl
              have e92 : ((s[k].toNat : Int) == 92) = false := by rw [h34]; rfl
              have e10 : ((s[k].toNat : Int) == 10) = false := by rw [h34]; rfl
              clear h34
              go_wp2_with (at_builtin; refine wpList_append_own _ rfl _ _ 212 rfl w.heap.size 5 i0 (.int .u8 0) 1 1 Tryz.underlying212 hi0 hz0 hz1 hz2 rfl (by decide) _ _ _ rfl (HO.out.alloc _) ⟨wr.heap.size, 0, none⟩ 1 1 [.int .u8 ((92 : UInt8).toNat : Int)] rfl rfl ?c1 ?c2 ?c3 ?c4 ?c5 ?_)
              case c1 =>
                intro j' u hj'
                match j', hj' with
                | 0, hj' => simp at hj'; subst hj'; exact World.cell?_alloc_at _ _ _ _ rfl
              case c2 => intro u hu; simp at hu; subst hu; rfl
              case c3 => unfold maxLen; omega
              case c4 => omega
              case c5 => have := HG.out.size; first | omega | (simp; done) | (simp; omega)
              intro v5 w5 hown4 hg4 _
              obtain ⟨a5, p5, rfl⟩ := own_form hown4
              obtain ⟨O4, G4⟩ := app_one (c := 92) HO.out HG.out hown4 hg4
              have HO5 := hide O4
              have HG5 := hide G4
              clear O4 G4 hown4 hg4
              have hol5 : (ok ++ [92]).length ≤ 2 + 2 * s.size := by simp; omega
              generalize ok ++ [92] = ok5 at *
              go_wp2_with (at_builtin; refine wpList_append_own _ rfl _ _ 212 rfl w.heap.size 5 i0 (.int .u8 0) 1 1 Tryz.underlying212 hi0 hz0 hz1 hz2 rfl (by decide) _ _ _ rfl (HO5.out.alloc _) ⟨w5.heap.size, 0, none⟩ 1 1 [.int .u8 ((s[k] : UInt8).toNat : Int)] rfl rfl ?c1 ?c2 ?c3 ?c4 ?c5 ?_)
              case c1 =>
                intro j' u hj'
                match j', hj' with
                | 0, hj' => simp at hj'; subst hj'; exact World.cell?_alloc_at _ _ _ _ rfl
              case c2 => intro u hu; simp at hu; subst hu; rfl
              case c3 => unfold maxLen; omega
              case c4 => omega
              case c5 => have := HG5.out.size; first | omega | (simp; done) | (simp; omega)
              intro v6 w6 hown4 hg4 _
              obtain ⟨a6, p6, rfl⟩ := own_form hown4
              obtain ⟨O4, G4⟩ := app_one (c := s[k]) HO5.out HG5.out hown4 hg4
              have HO6 := hide O4
              have HG6 := hide G4
              clear O4 G4 hown4 hg4
              go_wp2
              go_roundw
              case rel => exact ⟨k + 1, by omega, by go_num, by rw [HE.out]; exact HO6.out, HG6⟩
              case measure => simp [intOf]; omega
            by_cases h92 : s[k].toNat = 92
            · have HE : Hid (O (k + 1) = (ok ++ [92]) ++ [s[k]]) := by
                show _ = _
                rw [HSTEP.out, show s[k] = 92 from UInt8.toNat_inj.1 h92]
                simp [escB]
              have e34 : ((s[k].toNat : Int) == 34) = false := by rw [h92]; rfl
              have e92 : ((s[k].toNat : Int) == 92) = true := by rw [h92]; rfl
              have e10 : ((s[k].toNat : Int) == 10) = false := by rw [h92]; rfl
              clear h92
              go_wp2_with (at_builtin; refine wpList_append_own _ rfl _ _ 212 rfl w.heap.size 5 i0 (.int .u8 0) 1 1 Tryz.underlying212 hi0 hz0 hz1 hz2 rfl (by decide) _ _ _ rfl (HO.out.alloc _) ⟨wr.heap.size, 0, none⟩ 1 1 [.int .u8 ((92 : UInt8).toNat : Int)] rfl rfl ?c1 ?c2 ?c3 ?c4 ?c5 ?_)
              case c1 =>
                intro j' u hj'
                match j', hj' with
                | 0, hj' => simp at hj'; subst hj'; exact World.cell?_alloc_at _ _ _ _ rfl
              case c2 => intro u hu; simp at hu; subst hu; rfl
              case c3 => unfold maxLen; omega
              case c4 => omega
              case c5 => have := HG.out.size; first | omega | (simp; done) | (simp; omega)
              intro v5 w5 hown4 hg4 _
              obtain ⟨a5, p5, rfl⟩ := own_form hown4
              obtain ⟨O4, G4⟩ := app_one (c := 92) HO.out HG.out hown4 hg4
              have HO5 := hide O4
              have HG5 := hide G4
              clear O4 G4 hown4 hg4
              have hol5 : (ok ++ [92]).length ≤ 2 + 2 * s.size := by simp; omega
              generalize ok ++ [92] = ok5 at *
              go_wp2_with (at_builtin; refine wpList_append_own _ rfl _ _ 212 rfl w.heap.size 5 i0 (.int .u8 0) 1 1 Tryz.underlying212 hi0 hz0 hz1 hz2 rfl (by decide) _ _ _ rfl (HO5.out.alloc _) ⟨w5.heap.size, 0, none⟩ 1 1 [.int .u8 ((s[k] : UInt8).toNat : Int)] rfl rfl ?c1 ?c2 ?c3 ?c4 ?c5 ?_)
              case c1 =>
                intro j' u hj'
                match j', hj' with
                | 0, hj' => simp at hj'; subst hj'; exact World.cell?_alloc_at _ _ _ _ rfl
              case c2 => intro u hu; simp at hu; subst hu; rfl
              case c3 => unfold maxLen; omega
              case c4 => omega
              case c5 => have := HG5.out.size; first | omega | (simp; done) | (simp; omega)
              intro v6 w6 hown4 hg4 _
              obtain ⟨a6, p6, rfl⟩ := own_form hown4
              obtain ⟨O4, G4⟩ := app_one (c := s[k]) HO5.out HG5.out hown4 hg4
              have HO6 := hide O4
              have HG6 := hide G4
              clear O4 G4 hown4 hg4
              go_wp2
              go_roundw
              case rel => exact ⟨k + 1, by omega, by go_num, by rw [HE.out]; exact HO6.out, HG6⟩
              case measure => simp [intOf]; omega
            by_cases h10 : s[k].toNat = 10
            · have HE : Hid (O (k + 1) = (ok ++ [92]) ++ [110]) := by
                show _ = _
                rw [HSTEP.out, show s[k] = 10 from UInt8.toNat_inj.1 h10]
                simp [escB]
              have e34 : ((s[k].toNat : Int) == 34) = false := by rw [h10]; rfl
              have e92 : ((s[k].toNat : Int) == 92) = false := by rw [h10]; rfl
              have e10 : ((s[k].toNat : Int) == 10) = true := by rw [h10]; rfl
              clear h10
              go_wp2_with (at_builtin; refine wpList_append_own _ rfl _ _ 212 rfl w.heap.size 5 i0 (.int .u8 0) 1 1 Tryz.underlying212 hi0 hz0 hz1 hz2 rfl (by decide) _ _ _ rfl (HO.out.alloc _) ⟨wr.heap.size, 0, none⟩ 1 1 [.int .u8 ((92 : UInt8).toNat : Int)] rfl rfl ?c1 ?c2 ?c3 ?c4 ?c5 ?_)
              case c1 =>
                intro j' u hj'
                match j', hj' with
                | 0, hj' => simp at hj'; subst hj'; exact World.cell?_alloc_at _ _ _ _ rfl
              case c2 => intro u hu; simp at hu; subst hu; rfl
              case c3 => unfold maxLen; omega
              case c4 => omega
              case c5 => have := HG.out.size; first | omega | (simp; done) | (simp; omega)
              intro v5 w5 hown4 hg4 _
              obtain ⟨a5, p5, rfl⟩ := own_form hown4
              obtain ⟨O4, G4⟩ := app_one (c := 92) HO.out HG.out hown4 hg4
              have HO5 := hide O4
              have HG5 := hide G4
              clear O4 G4 hown4 hg4
              have hol5 : (ok ++ [92]).length ≤ 2 + 2 * s.size := by simp; omega
              generalize ok ++ [92] = ok5 at *
              go_wp2_with (at_builtin; refine wpList_append_own _ rfl _ _ 212 rfl w.heap.size 5 i0 (.int .u8 0) 1 1 Tryz.underlying212 hi0 hz0 hz1 hz2 rfl (by decide) _ _ _ rfl (HO5.out.alloc _) ⟨w5.heap.size, 0, none⟩ 1 1 [.int .u8 ((110 : UInt8).toNat : Int)] rfl rfl ?c1 ?c2 ?c3 ?c4 ?c5 ?_)
              case c1 =>
                intro j' u hj'
                match j', hj' with
                | 0, hj' => simp at hj'; subst hj'; exact World.cell?_alloc_at _ _ _ _ rfl
              case c2 => intro u hu; simp at hu; subst hu; rfl
              case c3 => unfold maxLen; omega
              case c4 => omega
              case c5 => have := HG5.out.size; first | omega | (simp; done) | (simp; omega)
              intro v6 w6 hown4 hg4 _
              obtain ⟨a6, p6, rfl⟩ := own_form hown4
              obtain ⟨O4, G4⟩ := app_one (c := 110) HO5.out HG5.out hown4 hg4
              have HO6 := hide O4
              have HG6 := hide G4
              clear O4 G4 hown4 hg4
              go_wp2
              go_roundw
              case rel => exact ⟨k + 1, by omega, by go_num, by rw [HE.out]; exact HO6.out, HG6⟩
              case measure => simp [intOf]; omega
            have HE : Hid (O (k + 1) = ok ++ [s[k]]) := by
              show _ = _
              rw [HSTEP.out]
              unfold escB
              rw [if_neg (fun h => h34 (by rw [h]; rfl)), if_neg (fun h => h92 (by rw [h]; rfl)), if_neg (fun h => h10 (by rw [h]; rfl))]
            have e34 : ((s[k].toNat : Int) == 34) = false := by rw [beq_eq_false_iff_ne]; omega
            have e92 : ((s[k].toNat : Int) == 92) = false := by rw [beq_eq_false_iff_ne]; omega
            have e10 : ((s[k].toNat : Int) == 10) = false := by rw [beq_eq_false_iff_ne]; omega
            clear h34 h92 h10
            go_wp2_with (at_builtin; refine wpList_append_own _ rfl _ _ 212 rfl w.heap.size 5 i0 (.int .u8 0) 1 1 Tryz.underlying212 hi0 hz0 hz1 hz2 rfl (by decide) _ _ _ rfl (HO.out.alloc _) ⟨wr.heap.size, 0, none⟩ 1 1 [.int .u8 ((s[k] : UInt8).toNat : Int)] rfl rfl ?c1 ?c2 ?c3 ?c4 ?c5 ?_)
            case c1 =>
              intro j' u hj'
              match j', hj' with
              | 0, hj' => simp at hj'; subst hj'; exact World.cell?_alloc_at _ _ _ _ rfl
            case c2 => intro u hu; simp at hu; subst hu; rfl
            case c3 => unfold maxLen; omega
            case c4 => omega
            case c5 => have := HG.out.size; first | omega | (simp; done) | (simp; omega)
            intro v5 w5 hown4 hg4 _
            obtain ⟨a5, p5, rfl⟩ := own_form hown4
            obtain ⟨O4, G4⟩ := app_one (c := s[k]) HO.out HG.out hown4 hg4
            have HO5 := hide O4
            have HG5 := hide G4
            clear O4 G4 hown4 hg4
            go_wp2
            go_roundw
            case rel => exact ⟨k + 1, by omega, by go_num, by rw [HE.out]; exact HO5.out, HG5⟩
            case measure => simp [intOf]; omega
          · have HE : Hid (str (constF s.data.toList) = str (ok ++ [34])) := by
              show _ = _
              rw [HCF.out, ← HOK.out, HOO.out]
              simp only [Bool.or_self, Bool.false_eq_true, if_false]
              rw [List.take_of_length_le (by simp; omega)]
            go_wp2_with (at_builtin; refine wpList_append_own _ rfl _ _ 212 rfl w.heap.size 5 i0 (.int .u8 0) 1 1 Tryz.underlying212 hi0 hz0 hz1 hz2 rfl (by decide) _ _ _ rfl (HO.out.alloc _) ⟨wr.heap.size, 0, none⟩ 1 1 [.int .u8 ((34 : UInt8).toNat : Int)] rfl rfl ?c1 ?c2 ?c3 ?c4 ?c5 ?_)
            case c1 =>
              intro j' u hj'
              match j', hj' with
              | 0, hj' => simp at hj'; subst hj'; exact World.cell?_alloc_at _ _ _ _ rfl
            case c2 => intro u hu; simp at hu; subst hu; rfl
            case c3 => unfold maxLen; omega
            case c4 => omega
            case c5 => have := HG.out.size; first | omega | (simp; done) | (simp; omega)
            intro v5 w5 hown4 hg4 _
            obtain ⟨a5, p5, rfl⟩ := own_form hown4
            obtain ⟨O4, G4⟩ := app_one (c := 34) HO.out HG.out hown4 hg4
            have HO5 := hide O4
            have HG5 := hide G4
            clear O4 G4 hown4 hg4
            have hcv := own_string HO5.out
            go_wp2
            go_ret
            exact ⟨ret_str HE.out.symm, HG5.out⟩
end Go.Proofs.YtgllfcoafgphbaaGreatDoor
