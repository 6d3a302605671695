import Derived.Test.YtgllfcoafgphbaaGreatDoorM36
import Derived.Test.YtgllfcoafgphbaaGreatDoorChecksWalk
import Derived.Test.YtgllfcoafgphbaaGreatDoorParsesWalk
/-
  The law CheckLevels, walked.
-/
namespace Go.Proofs.YtgllfcoafgphbaaGreatDoor
open Go.ChangeShapes Go.WideShapes Go.ChangeAt Go.RowKit Go.Hands
set_option linter.unusedVariables false
theorem levelsV_len (l : List (List UInt8 × Nat)) : (levelsV l).length = l.length * 2 := by
  induction l with
  | nil => rfl
  | cons t l ih =>
    simp only [levelsV, List.flatMap_cons, List.length_append, List.length_cons] at ih ⊢
    rw [ih]; simp [levelV]; omega
/-- levels may be spoilt -/
theorem spoilt_levels {w1 w : World} {base top g cap : Nat} {e : TypeId} {l : List (List UInt8 × Nat)} (h : w1.ownsRow base e 2 (.slice (some ⟨g, 0, none⟩) l.length cap) l.length (levelsV l)) (ht : w1.heap.size ≤ top) (hg : w1.grownBy w none) : Spoilt w base top g l.length 2 [] w := by
  have h' := own_far h hg (by simp)
  have hb := own_blk h rfl
  have hlt : g < w1.heap.size := hb.2
  refine ⟨hb.1, by omega, Mid.refl _ _ _, fun i hi => ?_, fun i => own_soft h' i, fun i hi oz ho => by simp at ho⟩
  have hm2 : i < (levelsV l).length := by rw [levelsV_len]; exact hi
  have := h'.cells rfl i _ (List.getElem?_eq_getElem hm2)
  rw [add_zero] at this
  exact ⟨_, this⟩
theorem levelsL_len {rs : List PRule} (hl : rs.length ≤ 200) (hwf : ∀ r ∈ rs, WfR r) : (levelsL rs).length ≤ 2700 := by
  unfold levelsL; rw [List.length_map]; exact namesF_len hl hwf
set_option maxRecDepth 100000 in
set_option maxHeartbeats 4000000 in
theorem levels_walk (s : ByteArray) (L T M : Addr) (w : World) (hE : Errs w L T M) (hB : ErrB w L T M) (hgt : gTop ≤ w.heap.size) :
    Calls Tryz.prog 4 #[.string s] w fun en w' => en = .returned (.bool true) ∧ Below w.heap.size w w' := by
  have HC : Hid (∀ (t : ByteArray) (wx : World), Below w.heap.size w wx → Calls Tryz.prog 11 #[.string t] wx fun en w' => LevelsQ wx.heap.size (checkF t.data.toList) en w' ∧ Below wx.heap.size wx w') := fun t wx hx =>
    plevels_any t L T M wx (hE.below hx hgt) (hB.below hx (Nat.le_refl _)) (Nat.le_trans hgt hx.size)
  clear hE hB
  obtain ⟨R, HT⟩ : ∃ R, Hid (checkF s.data.toList = R) := ⟨_, (rfl : _ = _)⟩
  have HC1 := hide (fun wx hx => HC.out s wx hx)
  rw [HT.out] at HC1
  have HD := hide (fun w1 => rchecked_any s w1)
  rw [HT.out] at HD
  go_enter Tryz.func4, Tryz.ntmps4
  go_wp2_with fail
  refine (HC1.out w (Below.refl _ _)).mono ?_
  rintro e w1 ⟨hq, hb1⟩
  have HB1 := hide hb1
  clear hb1
  cases R with
  | error er =>
    obtain ⟨ec, x⟩ := er
    have hq' : e = .returned (.tuple #[.slice none 0 0, .int .i64 (ec : Nat), .int .i64 (x : Nat)]) := hq
    subst hq'
    have hne : (((ec : Nat) : Int) != 0) = true := by
      rw [bne_iff_ne]
      have := check_err0 s ec x HT.out
      omega
    clear hq
    go_wp2_with fail
    refine (HC.out _ w1 HB1.out).mono ?_
    rintro e w2 ⟨hq2, hb2⟩
    have HB2 : Hid (Below w.heap.size w w2) := HB1.out.trans (hb2.mono HB1.out.size)
    have HQ2 : ∃ u, e = .returned u := by
      generalize checkF _ = Z at hq2
      cases Z with
      | error er => obtain ⟨a, b⟩ := er; exact ⟨_, hq2⟩
      | ok qs => obtain ⟨v, h1, _⟩ := hq2; exact ⟨_, h1⟩
    obtain ⟨u, rfl⟩ := HQ2
    clear hq2 hb2
    go_wp2_with fail
    refine (HD.out w2).mono ?_
    rintro e w3 ⟨hq3, hg3⟩
    have hq' : e = .returned (.tuple #[.slice none 0 0, .int .i64 (ec : Nat), .int .i64 (x : Nat)]) := hq3
    subst hq'
    have HB3 : Hid (Below w.heap.size w w3) := HB2.out.trans ((below_ofNone hg3).mono HB2.out.size)
    clear hq3 hg3
    go_wp2_with fail
    refine (numC_any _ _).mono ?_
    rintro e w4 ⟨rfl, rfl⟩
    go_wp2
    go_ret
    exact ⟨by simp, HB3.out⟩
  | ok rs =>
    obtain ⟨v, rfl, hown⟩ := hq
    obtain ⟨hpf, hring⟩ := checkF_yes HT.out
    obtain ⟨hrl, hwf⟩ := parseF_wf _ _ hpf
    have HLN := hide (levelsL_len hrl hwf)
    have HLO : Hid (∀ (v : Value) (hs bs : List Value) (Bb : Nat) (wx : World), RulesAt 45 47 43 Bb wx v rs hs bs → Calls Tryz.prog 13 #[v] wx fun e w' => (∃ u, e = .returned u ∧ w'.ownsRow wx.heap.size 63 2 u (levelsL rs).length (levelsV (levelsL rs))) ∧ wx.grownBy w' none) := fun v hs bs Bb wx h => rlevelsOf_any rs v hs bs Bb wx h hrl hwf hring
    obtain ⟨ll, HLL⟩ : ∃ ll, Hid (levelsL rs = ll) := ⟨_, (rfl : _ = _)⟩
    have HC2 : Hid (∀ (wx : World), Below w.heap.size w wx → Calls Tryz.prog 11 #[.string s] wx fun en w' => (∃ v, en = .returned (.tuple #[v, .int .i64 0, .int .i64 0]) ∧ w'.ownsRow wx.heap.size 37 2 v ll.length (levelsV ll)) ∧ Below wx.heap.size wx w') := by
      rw [← HLL.out]; exact fun wx hx => HC1.out wx hx
    rw [HLL.out] at hown HLN HLO
    have HOW := hide hown
    obtain ⟨va, vc, hv⟩ := own_form hown
    subst hv
    clear hown hpf hring hwf HC1
    obtain ⟨N, HN⟩ : ∃ N, Hid (ll.length = N) := ⟨_, (rfl : _ = _)⟩
    have hN : N ≤ 2700 := by rw [← HN.out]; exact HLN.out
    rw [HN.out]
    rw [HN.out] at HOW
    go_wp2_with fail
    refine (HC.out _ w1 HB1.out).mono ?_
    rintro e w2 ⟨hq2, hb2⟩
    have HG2 : Hid (w1.grownBy w2 none) := below_none hb2
    have HB2 : Hid (Below w.heap.size w w2) := HB1.out.trans (hb2.mono HB1.out.size)
    have HQ2 : ∃ u, e = .returned u := by
      generalize checkF _ = Z at hq2
      cases Z with
      | error er => obtain ⟨a, b⟩ := er; exact ⟨_, hq2⟩
      | ok qs => obtain ⟨v, h1, _⟩ := hq2; exact ⟨_, h1⟩
    obtain ⟨u, rfl⟩ := HQ2
    clear hq2 hb2 HC
    go_wp2_with fail
    refine (HD.out w2).mono ?_
    rintro e w3 ⟨hq3, hg3⟩
    obtain ⟨v3, h3, b3, rfl, hra⟩ := hq3
    have HRA := hide hra
    obtain ⟨ra, rc, hv3⟩ := own_form hra.own
    subst hv3
    have HG3 : Hid (w2.grownBy w3 none) := hg3
    have HB3 : Hid (Below w.heap.size w w3) := HB2.out.trans ((below_ofNone hg3).mono HB2.out.size)
    clear hra hg3 HD
    obtain ⟨NR, HNR⟩ : ∃ NR, Hid (rs.length = NR) := ⟨_, (rfl : _ = _)⟩
    rw [HNR.out]
    have HL3 := hide (HLO.out _ h3 b3 w2.heap.size w3 HRA.out)
    rw [HNR.out] at HL3 HRA
    go_wp2_with fail
    refine HL3.out.mono ?_
    rintro e w4 ⟨⟨v4, rfl, hown4⟩, hg4⟩
    have HG4 : Hid (w3.grownBy w4 none) := hg4
    have HB4 : Hid (Below w.heap.size w w4) := HB3.out.trans ((below_ofNone hg4).mono HB3.out.size)
    have HG14 : Hid (w1.grownBy w4 none) := fr_both (fr_both HG2.out HG3.out) HG4.out
    have HOW4 : Hid (w4.ownsRow w.heap.size 37 2 (.slice va N vc) N (levelsV ll)) := own_far HOW.out HG14.out (by simp)
    have HS4 := hide (sameLevels_any ll (.slice va N vc) v4 w.heap.size w3.heap.size w4 (by rw [HN.out]; exact HOW4.out) hown4 (by have := HN.out; omega))
    obtain ⟨va4, vc4, hv4⟩ := own_form hown4
    subst hv4
    rw [HN.out] at HS4
    rw [HN.out]
    clear hown4 hg4 HL3
    go_wp2_with fail
    refine HS4.out.mono ?_
    rintro e w5 ⟨rfl, hg5⟩
    have HG15 : Hid (w1.grownBy w5 none) := fr_both HG14.out hg5
    have HG35 : Hid (w3.grownBy w5 none) := fr_both HG4.out hg5
    have HB5 : Hid (Below w.heap.size w w5) := HB4.out.trans ((below_ofNone hg5).mono HB4.out.size)
    have HRA5 : Hid (RulesAt 45 47 43 w2.heap.size w5 (.slice ra NR rc) rs h3 b3) := HRA.out.kept HG35.out (fun g e => by cases e)
    clear hg5 HS4
    have HSP : Hid (N = 0 ∨ ∃ g, va = some ⟨g, 0, none⟩ ∧ Spoilt w5 w.heap.size w2.heap.size g N 2 [] w5) := by
      rcases HOW.out.2 with ⟨hq, hn⟩ | ⟨g, cap, cur, hq, -⟩
      · exact Or.inl hn
      · cases hq
        refine Or.inr ⟨g, rfl, ?_⟩
        have := HOW.out
        rw [← HN.out] at this
        have h2 := spoilt_levels (top := w2.heap.size) this HG2.out.size HG15.out
        rwa [HN.out] at h2
    go_wp2_with fail
    go_loopw [10] (fun iv wr => ∃ k : Nat, k ≤ N ∧ iv = .int .i64 k ∧ Hid (Mid w.heap.size w2.heap.size w5 wr) ∧ Hid (N = 0 ∨ ∃ g, va = some ⟨g, 0, none⟩ ∧ Spoilt w5 w.heap.size w2.heap.size g N 2 [] wr)) (fun iv _ => N - (intOf iv).toNat)
    case atStart => exact ⟨0, by omega, rfl, Mid.refl _ _ _, HSP⟩
    case round =>
      obtain ⟨k, hk, rfl, HM, HS⟩ := hrel
      by_cases hlt : k < N
      · rcases HS.out with h0 | ⟨g, rfl, hsp⟩
        · omega
        · obtain ⟨t0, d0⟩ := hsp.cells (k * 2) (by omega)
          obtain ⟨t1, d1⟩ := hsp.cells (k * 2 + 1) (by omega)
          have f0 := hsp.thaw (k * 2)
          have f1 := hsp.thaw (k * 2 + 1)
          have HSS := hide hsp
          clear hsp
          go_wp2
          go_roundw
          case rel =>
            have hf := (HSS.out.set HSS.out.lo HSS.out.hi (k * 2) (.string { data := #[63] }) (fun _ h => by obtain ⟨oz, ho, _⟩ := h; simp at ho)).set HSS.out.lo HSS.out.hi (k * 2 + 1) (.int .i64 0) (fun _ h => by obtain ⟨oz, ho, _⟩ := h; simp at ho)
            exact ⟨k + 1, by omega, by go_num, hf.mid, Or.inr ⟨g, rfl, hf⟩⟩
          case measure => simp [intOf]; omega
      · have HB6 : Hid (Below w.heap.size w wr) := HM.out.below HB5.out
        have HRA6 : Hid (RulesAt 45 47 43 w2.heap.size wr (.slice ra NR rc) rs h3 b3) := HRA5.out.mid HM.out
        go_wp2_with fail
        refine (HC2.out wr HB6.out).mono ?_
        rintro e w7 ⟨⟨v7, rfl, hown7⟩, hb7⟩
        have HO7 := hide hown7
        have HB7 : Hid (Below w.heap.size w w7) := HB6.out.trans (hb7.mono HB6.out.size)
        have HRA7 : Hid (RulesAt 45 47 43 w2.heap.size w7 (.slice ra NR rc) rs h3 b3) := HRA6.out.kept (below_none hb7) (fun g e => by cases e)
        obtain ⟨va7, vc7, hv7⟩ := own_form hown7
        subst hv7
        clear hown7 hb7
        rw [HN.out] at HO7
        rw [HN.out]
        have HL7 := hide (HLO.out _ h3 b3 w2.heap.size w7 HRA7.out)
        go_wp2_with fail
        refine HL7.out.mono ?_
        rintro e w8 ⟨⟨v8, rfl, hown8⟩, hg8⟩
        have HB8 : Hid (Below w.heap.size w w8) := HB7.out.trans ((below_ofNone hg8).mono HB7.out.size)
        have HO8 : Hid (w8.ownsRow wr.heap.size 37 2 (.slice va7 N vc7) N (levelsV ll)) := own_far HO7.out hg8 (by simp)
        have HS8 := hide (sameLevels_any ll (.slice va7 N vc7) v8 wr.heap.size w7.heap.size w8 (by rw [HN.out]; exact HO8.out) hown8 (by have := HN.out; omega))
        obtain ⟨va8, vc8, hv8⟩ := own_form hown8
        subst hv8
        rw [HN.out] at HS8
        rw [HN.out]
        clear hown8 hg8 HL7
        go_wp2_with fail
        refine HS8.out.mono ?_
        rintro e w9 ⟨rfl, hg9⟩
        have HB9 : Hid (Below w.heap.size w w9) := HB8.out.trans ((below_ofNone hg9).mono HB8.out.size)
        clear hg9 HS8
        go_wp2_with fail
        refine (numC_any _ _).mono ?_
        rintro e w10 ⟨rfl, rfl⟩
        go_wp2
        go_ret
        exact ⟨by simp, HB9.out⟩
end Go.Proofs.YtgllfcoafgphbaaGreatDoor
