import Derived.Test.YtgllfcoafgphbaaGreatDoorLevelsWalk
import Derived.Test.YtgllfcoafgphbaaGreatDoorTurnRules
import Derived.Laws.StructEq
/-
  The law CheckOrder, walked.
-/
namespace Go.Proofs.YtgllfcoafgphbaaGreatDoor
open Go.ChangeShapes Go.WideShapes Go.ChangeAt Go.RowKit Go.Hands
set_option linter.unusedVariables false
theorem fieldsLevel : (Tryz.prog.fieldsOf 37).toList.map (fun f => (f.name, f.type, f.offset)) = [("Name", 9, 0), ("Number", 3, 1)] := by kernel_rfl
set_option maxRecDepth 100000 in
/-- a level is itself -/
theorem neqLevel (a : ByteArray) (n : Int) (W : World) : (binOp .neq 37 (.agg #[.string a, .int .i64 n]) (.agg #[.string a, .int .i64 n])).run Tryz.prog W = .ok (.bool false) W := by
  rw [run_neq_struct, run_equalIn_agg W 9999 37 _ _ (by kernel_rfl) (by kernel_rfl)]
  have hf := fieldsLevel
  generalize (Tryz.prog.fieldsOf 37).toList = fs at hf
  cases fs with
  | nil => simp at hf
  | cons f fs =>
    cases fs with
    | nil => simp at hf
    | cons g fs =>
      cases fs with
      | cons h t => simp at hf
      | nil =>
        simp only [List.map_cons, List.map_nil, List.cons.injEq, Prod.mk.injEq, and_true] at hf
        obtain ⟨⟨f1, f2, f3⟩, g1, g2, g3⟩ := hf
        simp [Op.eqFields, f1, f2, f3, g1, g2, g3, run_equalIn_string _ _ _ _ _ Tryz.underlying9, run_equalIn_int _ _ _ _ _ _ _ Tryz.underlying3, go_sem]
theorem turned_follow {l : List UInt8} {rs : List PRule} (h : checkF l = .ok rs) (hne : turnedF l ≠ []) : ∃ qs, checkF (turnedF l) = .ok qs ∧ levelsL qs = levelsL rs := by
  have hp := (checkF_yes h).1
  have e : turnedF l = turnedR rs := by unfold turnedF; rw [hp]
  rw [e] at hne ⊢
  unfold turnedR at hne ⊢
  by_cases hb : 20000 < (rulesTextF rs.reverse).length
  · rw [if_pos hb] at hne; exact absurd rfl hne
  · rw [if_neg hb]; exact order_follow h (by omega)
set_option maxRecDepth 100000 in
set_option maxHeartbeats 4000000 in
theorem order_walk (s : ByteArray) (L T M : Addr) (w : World) (hE : Errs w L T M) (hB : ErrB w L T M) (hgt : gTop ≤ w.heap.size) :
    Calls Tryz.prog 6 #[.string s] w fun en w' => en = .returned (.bool true) ∧ Below w.heap.size w w' := by
  have HC : Hid (∀ (t : ByteArray) (wx : World), Below w.heap.size w wx → Calls Tryz.prog 11 #[.string t] wx fun en w' => LevelsQ wx.heap.size (checkF t.data.toList) en w' ∧ Below wx.heap.size wx w') := fun t wx hx =>
    plevels_any t L T M wx (hE.below hx hgt) (hB.below hx (Nat.le_refl _)) (Nat.le_trans hgt hx.size)
  clear hE hB
  obtain ⟨R, HT⟩ : ∃ R, Hid (checkF s.data.toList = R) := ⟨_, (rfl : _ = _)⟩
  have HC1 := hide (HC.out s w (Below.refl _ _))
  rw [HT.out] at HC1
  have HD := hide (fun w1 => rchecked_any s w1)
  rw [HT.out] at HD
  have HTU := hide (fun w1 => turned_any s w1)
  go_enter Tryz.func6, Tryz.ntmps6
  go_wp2_with fail
  refine HC1.out.mono ?_
  rintro e w1 ⟨hq, hb1⟩
  have HB1 := hide hb1
  clear hb1 HC1
  cases R with
  | error er =>
    obtain ⟨ec, x⟩ := er
    have hq' : e = .returned (.tuple #[.slice none 0 0, .int .i64 (ec : Nat), .int .i64 (x : Nat)]) := hq
    subst hq'
    have hne : (((ec : Nat) : Int) != 0) = true := by
      rw [bne_iff_ne]
      have := check_err0 s ec x HT.out
      omega
    clear hq
    go_wp2_with fail
    refine (HD.out w1).mono ?_
    rintro e w2 ⟨hq2, hg2⟩
    have hq' : e = .returned (.tuple #[.slice none 0 0, .int .i64 (ec : Nat), .int .i64 (x : Nat)]) := hq2
    subst hq'
    have HB2 : Hid (Below w.heap.size w w2) := HB1.out.trans ((below_ofNone hg2).mono HB1.out.size)
    clear hq2 hg2
    go_wp2_with fail
    refine (HTU.out w2).mono ?_
    rintro e w3 ⟨rfl, hg3⟩
    have HB3 : Hid (Below w.heap.size w w3) := HB2.out.trans ((below_ofNone hg3).mono HB2.out.size)
    clear hg3
    generalize str (turnedF s.data.toList) = X at *
    go_wp2_with fail
    refine (numC_any _ _).mono ?_
    rintro e w4 ⟨rfl, rfl⟩
    go_wp2_with fail
    refine (numC_any _ _).mono ?_
    rintro e w4 ⟨rfl, rfl⟩
    go_wp2
    go_ret
    exact ⟨by simp, HB3.out⟩
  | ok rs =>
    obtain ⟨v, rfl, hown⟩ := hq
    obtain ⟨hpf, hring⟩ := checkF_yes HT.out
    obtain ⟨hrl, hwf⟩ := parseF_wf _ _ hpf
    have hLN := levelsL_len hrl hwf
    have HOW := hide hown
    obtain ⟨va, vc, hv⟩ := own_form hown
    subst hv
    clear hown hpf hring hwf
    obtain ⟨ll, HLL⟩ : ∃ ll, Hid (levelsL rs = ll) := ⟨_, (rfl : _ = _)⟩
    rw [HLL.out] at HOW hLN ⊢
    obtain ⟨N, HN⟩ : ∃ N, Hid (ll.length = N) := ⟨_, (rfl : _ = _)⟩
    rw [HN.out] at HOW hLN ⊢
    go_wp2_with fail
    refine (HD.out w1).mono ?_
    rintro e w2 ⟨hq2, hg2⟩
    obtain ⟨v2, h2, b2, rfl, hra⟩ := hq2
    obtain ⟨ra, rc, hv2⟩ := own_form hra.own
    subst hv2
    have HB2 : Hid (Below w.heap.size w w2) := HB1.out.trans ((below_ofNone hg2).mono HB1.out.size)
    have HG2 : Hid (w1.grownBy w2 none) := hg2
    clear hra hg2
    generalize rs.length = NR at *
    go_wp2_with fail
    refine (HTU.out w2).mono ?_
    rintro e w3 ⟨rfl, hg3⟩
    have HB3 : Hid (Below w.heap.size w w3) := HB2.out.trans ((below_ofNone hg3).mono HB2.out.size)
    have HG3 : Hid (w1.grownBy w3 none) := fr_both HG2.out hg3
    clear hg3
    by_cases hem : turnedF s.data.toList = []
    · have hXe : (str (turnedF s.data.toList)).toList.isEmpty = true := by rw [toList_str, hem]; rfl
      generalize str (turnedF s.data.toList) = X at *
      go_wp2_with fail
      refine (numC_any _ _).mono ?_
      rintro e w4 ⟨rfl, rfl⟩
      go_wp2_with fail
      refine (numC_any _ _).mono ?_
      rintro e w4 ⟨rfl, rfl⟩
      go_wp2
      go_ret
      exact ⟨by simp, HB3.out⟩
    · obtain ⟨qs, hck, hlv⟩ := turned_follow HT.out hem
      have HC3 := hide (HC.out (str (turnedF s.data.toList)) w3 HB3.out)
      rw [data_str, hck] at HC3
      have hXe : (str (turnedF s.data.toList)).toList.isEmpty = false := by
        rw [toList_str]
        cases ht : turnedF s.data.toList with
        | nil => exact absurd ht hem
        | cons a l => rfl
      generalize str (turnedF s.data.toList) = X at *
      go_wp2_with fail
      refine (numC_any _ _).mono ?_
      rintro e w4 ⟨rfl, rfl⟩
      go_wp2_with fail
      refine HC3.out.mono ?_
      rintro e w5 ⟨hq5, hb5⟩
      obtain ⟨v5, rfl, hown5⟩ := hq5
      rw [hlv, HLL.out] at hown5
      have HB5 : Hid (Below w.heap.size w w5) := HB3.out.trans (hb5.mono HB3.out.size)
      have HO5 := hide hown5
      have HOW5 : Hid (w5.ownsRow w.heap.size 37 2 (.slice va N vc) N (levelsV ll)) := own_far HOW.out (fr_both HG3.out (below_none hb5)) (by simp)
      obtain ⟨va5, vc5, hv5⟩ := own_form hown5
      subst hv5
      rw [HN.out] at HO5
      rw [HN.out]
      clear hown5 hb5 HC3 hXe hck hlv
      go_wp2_with fail
      refine (numC_any _ _).mono ?_
      rintro e w6 ⟨rfl, rfl⟩
      go_wp2_with fail
      go_loopw [13] (fun iv wr => ∃ k : Nat, k ≤ N ∧ iv = .int .i64 k ∧ Hid (w6.grownBy wr none)) (fun iv _ => N - (intOf iv).toNat)
      case atStart => exact ⟨0, by omega, rfl, fr_refl _ _⟩
      case round =>
        obtain ⟨k, hk, rfl, HG⟩ := hrel
        by_cases hlt : k < N
        · have hkl : k < ll.length := by have := HN.out; omega
          have h1 := HOW5.out
          have h2 := HO5.out
          rw [← HN.out] at h1 h2
          rcases own_levels h1 with ⟨h0, h3⟩ | ⟨ga, cap1, hv1, hc1⟩
          · rw [h3] at hkl; simp at hkl
          rcases own_levels h2 with ⟨h0, h3⟩ | ⟨gb, cap2, hv2, hc2⟩
          · rw [h3] at hkl; simp at hkl
          cases hv1
          cases hv2
          obtain ⟨a0, a1⟩ := hc1 k hkl
          obtain ⟨c0, c1⟩ := hc2 k hkl
          replace a0 := grown_cell HG.out a0
          replace a1 := grown_cell HG.out a1
          replace c0 := grown_cell HG.out c0
          replace c1 := grown_cell HG.out c1
          generalize ll[k] = t at *
          obtain ⟨tn, tk⟩ := t
          dsimp only at a0 a1 c0 c1
          generalize str tn = sx at *
          have hnq : ∀ W, (binOp .neq 37 (.agg #[.string sx, .int .i64 (tk : Nat)]) (.agg #[.string sx, .int .i64 (tk : Nat)])).run Tryz.prog W = .ok (.bool false) W := fun W => neqLevel sx _ W
          clear hc1 hc2 h1 h2
          go_wp2_with fail
          go_quiet (fail)
          go_wp2
          go_roundw
          case rel => exact ⟨k + 1, by omega, by go_num, fr_both HG.out (fr_draws _ _ _)⟩
          case measure => simp [intOf]; omega
        · have HB7 : Hid (Below w.heap.size w wr) := HB5.out.trans ((below_ofNone HG.out).mono HB5.out.size)
          go_wp2
          go_ret
          exact ⟨rfl, HB7.out⟩
end Go.Proofs.YtgllfcoafgphbaaGreatDoor
