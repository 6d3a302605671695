/-
  The program's lexer: a STRING, whole.
-/
import Derived.Test.YtoelacloghkooaaDoorPrQuote
namespace Go.Proofs.YtoelacloghkooaaDoor
open Go.ChangeShapes Go.WideShapes Go.ChangeAt Go.RowKit
set_option linter.unusedVariables false
/-- what a STRING is read as -/
def Quoted (L T M : Addr) (b : Nat) (s : ByteArray) (p : Nat) (r : Except PErr (List UInt8 × Nat)) (en : Ending) (w' : World) : Prop := match r with
  | .error (_, x) => en = .returned (.tuple #[.string { data := #[] }, errV L T M 2 x])
  | .ok (out, q) => if 200 < out.length then en = .returned (.tuple #[.string { data := #[] }, errV L T M 1 p]) else en = .returned (.tuple #[.string (str out), .nilIface]) ∧ Rd w' b s (skipTo s.data.toList q : Nat)
theorem Rd.far {w w' : World} {b : Nat} {s : ByteArray} {i : Int} (h : Rd w b s i) (hb : w'.heap[b]? = w.heap[b]?) : Rd w' b s i :=
  ⟨(World.cell?_of_block hb).trans h.c0, (World.cell?_of_block hb).trans h.c1, (World.frozen?_of_block hb).trans h.f1⟩
theorem Rd.lt {w : World} {b : Nat} {s : ByteArray} {i : Int} (h : Rd w b s i) : b < w.heap.size := glob_lt h.c0
theorem text_app2 {w wr w4 : World} {b : Nat} {s : ByteArray} {k : Int} {o v4 : Value} {out : List UInt8} {ob : Obj} {c : UInt8} (hbw : b < w.heap.size) (HK : Rd wr b s k) (HO : wr.ownsRow w.heap.size 5 1 o out.length (bs out)) (HG : w.grownBy wr (some b))
    (hown : w4.ownsRow w.heap.size 5 1 v4 (out.length + 1) (bs out ++ [.int .u8 (c.toNat : Int)])) (hg : (wr.alloc ob).grownBy w4 o.ownBlock) :
    Rd w4 b s k ∧ w4.ownsRow w.heap.size 5 1 v4 (out ++ [c]).length (bs (out ++ [c])) ∧ w.grownBy w4 (some b) := by
  have hba : (wr.alloc ob).heap[b]? = wr.heap[b]? := Below.heap_alloc _ _ _ HK.lt
  have hne : some b ≠ o.ownBlock := by
    intro e
    have := (own_blk HO e.symm).1
    omega
  refine ⟨HK.far ((hg.block b (by have := HK.lt; simp; omega) hne).trans hba), ?_, fr_own (fr_both HG (fr_alloc wr ob _)) (HO.alloc ob) (Nat.le_refl _) hg⟩
  rw [bs_snoc] at hown
  rw [List.length_append]; exact hown
set_option maxRecDepth 100000 in
set_option maxHeartbeats 4000000 in
theorem pquoted_any (b : Nat) (s : ByteArray) (p : Nat) (L T M : Addr) (w : World) (h : Rd w b s p) (hE : Errs w L T M) (hb : gTop ≤ b) (hp : p < s.size) (hs : s.size ≤ 1073741824) :
    Calls Tryd.prog 79 #[.pointer (some ⟨b, 0, none⟩)] w fun en w' => Quoted L T M b s p (strGo (s.data.toList.drop (p + 1)) (p + 1) []) en w' ∧ w.grownBy w' (some b) := by
  obtain ⟨i0, hi0, hz0, hz1, hz2⟩ := info_parts info5
  have HR := hide h
  have HE := hide hE
  have hbw := h.lt
  obtain ⟨c0, c1, f1⟩ := h
  clear hE
  go_enter Tryd.func79, Tryd.ntmps79
  go_wp2_with fail
  go_loopw [5, 6, 7] (fun o c e wr => ∃ (k : Nat) (out : List UInt8), k ≤ s.size ∧ p < k ∧ out.length ≤ k ∧ Hid (Rd wr b s (k : Nat)) ∧ Hid (wr.ownsRow w.heap.size 5 1 o out.length (bs out)) ∧ Hid (w.grownBy wr (some b)) ∧ Hid (strGo (s.data.toList.drop (p + 1)) (p + 1) [] = strGo (s.data.toList.drop k) k out)) (fun _ _ _ wr => s.size - placeOf wr b)
  case atStart => exact ⟨p + 1, [], by omega, by omega, by simp, HR.out.set _, World.ownsRow_nil _ _ _ _, fr_set _ _ _ _, (rfl : _ = _)⟩
  case round =>
    obtain ⟨k, out, hk, hpk, hol, HK, HO, HG, HT⟩ := hrel
    obtain ⟨va, vc, rfl⟩ := own_form HO.out
    clear c0 c1 f1
    have HPL : Hid (placeOf wr b = k) := placeOf_rd HK.out
    have HEr : Hid (Errs wr L T M) := HE.out.grown HG.out hb
    go_wp2_with fail
    refine (pleft_any b s k _ HK.out).mono ?_
    rintro e w1 ⟨rfl, n, rfl⟩
    have HK1 : Hid (Rd (wr.drewN n) b s k) := HK.out.drewN _
    have HE1 : Hid (Errs (wr.drewN n) L T M) := HEr.out.drewN _
    have HG1 : Hid (w.grownBy (wr.drewN n) (some b)) := fr_both HG.out (fr_draws _ _ _)
    have HO1 : Hid ((wr.drewN n).ownsRow w.heap.size 5 1 (.slice va out.length vc) out.length (bs out)) := own_far HO.out (fr_draws _ _ none) (fun _ _ => by simp)
    generalize wr.drewN n = w1 at *
    clear HK HEr HG HO
    have hend : (k = s.size ∨ ∃ h : k < s.size, s[k].toNat = 34) ∨ ∃ h : k < s.size, s[k].toNat ≠ 34 := by
      by_cases hl : k < s.size
      · by_cases h34 : s[k].toNat = 34
        · exact Or.inl (Or.inr ⟨hl, h34⟩)
        · exact Or.inr ⟨hl, h34⟩
      · exact Or.inl (Or.inl (by omega))
    rcases hend with hend | ⟨hl, h34⟩
    · have HWANT : Hid ((∃ h : k < s.size, s[k].toNat = 34 ∧ signF s.data.toList [34] k = some (skipTo s.data.toList (k + 1)) ∧ strGo (s.data.toList.drop (p + 1)) (p + 1) [] = .ok (out, k + 1)) ∨ (signF s.data.toList [34] k = none ∧ strGo (s.data.toList.drop (p + 1)) (p + 1) [] = .error (2, k))) := by
        show _ ∨ _
        rcases hend with he | ⟨hl, h34⟩
        · right
          refine ⟨by unfold signF; rw [starts_past s k (by omega)]; rfl, ?_⟩
          rw [HT.out]; exact strGo_end s k (by omega) out
        · left
          refine ⟨hl, h34, by unfold signF; rw [starts_get s k hl]; simp [h34], ?_⟩
          rw [HT.out]; exact strGo_quot s k hl h34 out
      have hcnd : (decide (k = s.size) = true) ∨ (decide (k = s.size) = false ∧ starts s.data.toList k [34] = true) := by
        rcases hend with he | ⟨hl, h34⟩
        · exact Or.inl (by simp [he])
        · exact Or.inr ⟨by simp; omega, by rw [starts_get s k hl]; simp [h34]⟩
      clear hend
      rcases hcnd with hd | ⟨hd, hst⟩
      · rw [hd]
        go_wp2_with fail
        refine (pwant_any b s (str [34]) k L T M _ HK1.out HE1.out hb hk hs).mono ?_
        rintro e w3 ⟨he, HFR⟩
        rw [data_str] at he
        have HG3 : Hid (w.grownBy w3 (some b)) := fr_both HG1.out HFR.g
        have HE3 : Hid (Errs w3 L T M) := HE1.out.grown HFR.g hb
        have HO3 : Hid (w3.ownsRow w.heap.size 5 1 (.slice va out.length vc) out.length (bs out)) := own_far HO1.out HFR.g (fun g hg => by have := (own_blk HO1.out hg).1; simp; omega)
        clear HFR
        rcases HWANT.out with ⟨hl, h34, hsf, hgo⟩ | ⟨hsf, hgo⟩
        · rw [hsf] at he
          obtain ⟨rfl, hrd⟩ := he
          have HRD := hide hrd
          have HGO := hide hgo
          clear hrd hgo hsf h34 HWANT
          have g0 := HE3.out.gl
          by_cases h2 : 200 < out.length
          · go_wp2_with fail
            go_quiet (fail)
            go_wp2
            go_ret2
            refine ⟨?_, fr_both HG3.out (fr_draws _ _ _)⟩
            rw [HGO.out]
            show if _ then _ else _
            rw [if_pos h2]; rfl
          · have h2' : out.length ≤ 200 := by omega
            have hcv : Sem.run Tryd.prog (convert 154 9 (.slice va out.length vc)) w3 = .ok (.string (str out)) w3 := own_string HO3.out
            go_wp2
            go_ret2
            refine ⟨?_, HG3.out⟩
            rw [HGO.out]
            show if _ then _ else _
            rw [if_neg h2]; exact ⟨rfl, HRD.out⟩
        · rw [hsf] at he
          have he' : e = .returned (errV L T M 2 k) := he
          subst he'
          have HGO := hide hgo
          clear he hgo hsf HWANT
          unfold errV
          go_wp2
          go_ret2
          refine ⟨?_, HG3.out⟩
          rw [HGO.out]; rfl
      · rw [hd]
        go_wp2_with fail
        refine (pbegins_any b s (str [34]) k _ HK1.out hk hs).mono ?_
        rintro e w2 ⟨rfl, n2, rfl⟩
        rw [data_str, hst]
        have HK2 : Hid (Rd (w1.drewN n2) b s k) := HK1.out.drewN _
        have HE2 : Hid (Errs (w1.drewN n2) L T M) := HE1.out.drewN _
        have HG2 : Hid (w.grownBy (w1.drewN n2) (some b)) := fr_both HG1.out (fr_draws _ _ _)
        have HO2 : Hid ((w1.drewN n2).ownsRow w.heap.size 5 1 (.slice va out.length vc) out.length (bs out)) := own_far HO1.out (fr_draws _ _ none) (fun _ _ => by simp)
        clear HK1 HE1 HG1 HO1
        generalize w1.drewN n2 = w2 at *
        go_wp2_with fail
        refine (pwant_any b s (str [34]) k L T M _ HK2.out HE2.out hb hk hs).mono ?_
        rintro e w3 ⟨he, HFR⟩
        rw [data_str] at he
        have HG3 : Hid (w.grownBy w3 (some b)) := fr_both HG2.out HFR.g
        have HE3 : Hid (Errs w3 L T M) := HE2.out.grown HFR.g hb
        have HO3 : Hid (w3.ownsRow w.heap.size 5 1 (.slice va out.length vc) out.length (bs out)) := own_far HO2.out HFR.g (fun g hg => by have := (own_blk HO2.out hg).1; simp; omega)
        clear HFR
        rcases HWANT.out with ⟨hl, h34, hsf, hgo⟩ | ⟨hsf, hgo⟩
        · rw [hsf] at he
          obtain ⟨rfl, hrd⟩ := he
          have HRD := hide hrd
          have HGO := hide hgo
          clear hrd hgo hsf h34 HWANT
          have g0 := HE3.out.gl
          by_cases h2 : 200 < out.length
          · go_wp2_with fail
            go_quiet (fail)
            go_wp2
            go_ret2
            refine ⟨?_, fr_both HG3.out (fr_draws _ _ _)⟩
            rw [HGO.out]
            show if _ then _ else _
            rw [if_pos h2]; rfl
          · have h2' : out.length ≤ 200 := by omega
            have hcv : Sem.run Tryd.prog (convert 154 9 (.slice va out.length vc)) w3 = .ok (.string (str out)) w3 := own_string HO3.out
            go_wp2
            go_ret2
            refine ⟨?_, HG3.out⟩
            rw [HGO.out]
            show if _ then _ else _
            rw [if_neg h2]; exact ⟨rfl, HRD.out⟩
        · rw [hsf] at he
          have he' : e = .returned (errV L T M 2 k) := he
          subst he'
          have HGO := hide hgo
          clear he hgo hsf HWANT
          unfold errV
          go_wp2
          go_ret2
          refine ⟨?_, HG3.out⟩
          rw [HGO.out]; rfl
    · have hd : decide (k = s.size) = false := by simp; omega
      have hst : starts s.data.toList k [34] = false := by rw [starts_get s k hl]; simp [h34]
      rw [hd]
      go_wp2_with fail
      refine (pbegins_any b s (str [34]) k _ HK1.out hk hs).mono ?_
      rintro e w2 ⟨rfl, n2, rfl⟩
      rw [data_str, hst]
      have HK2 : Hid (Rd (w1.drewN n2) b s k) := HK1.out.drewN _
      have HE2 : Hid (Errs (w1.drewN n2) L T M) := HE1.out.drewN _
      have HG2 : Hid (w.grownBy (w1.drewN n2) (some b)) := fr_both HG1.out (fr_draws _ _ _)
      have HO2 : Hid ((w1.drewN n2).ownsRow w.heap.size 5 1 (.slice va out.length vc) out.length (bs out)) := own_far HO1.out (fr_draws _ _ none) (fun _ _ => by simp)
      clear HK1 HE1 HG1 HO1
      generalize w1.drewN n2 = w2 at *
      go_wp2_with fail
      refine (pqbyte_any b s k L T M _ HK2.out HE2.out hb hl h34 hs).mono ?_
      rintro e w3 ⟨hq, HFR⟩
      have HG3 : Hid (w.grownBy w3 (some b)) := fr_both HG2.out HFR.g
      have HO3 : Hid (w3.ownsRow w.heap.size 5 1 (.slice va out.length vc) out.length (bs out)) := own_far HO2.out HFR.g (fun g hg => by have := (own_blk HO2.out hg).1; simp; omega)
      clear HFR HG2 HO2 HK2 HE2
      rcases hq with ⟨c, k', hk1, hk2, hk3, rfl, hrd, hgo⟩ | ⟨x, rfl, hgo⟩
      · have HK3 := hide hrd
        have HT2 : Hid (strGo (s.data.toList.drop (p + 1)) (p + 1) [] = strGo (s.data.toList.drop (k' + 1)) (k' + 1) (out ++ [c])) := by show _ = _; rw [HT.out]; exact hgo out
        clear hrd hgo h34 hd hst
        have hcc := byte_le c
        go_wp2_with (at_builtin; refine wpList_append_own _ rfl _ _ 154 rfl w.heap.size 5 i0 (.int .u8 0) 1 1 Tryd.underlying154 hi0 hz0 hz1 hz2 rfl (by decide) _ _ _ rfl (HO3.out.alloc _) ⟨w3.heap.size, 0, none⟩ 1 1 [.int .u8 (c.toNat : Int)] rfl rfl ?c1 ?c2 ?c3 ?c4 ?c5 ?_)
        case c1 =>
          intro j' u hj'
          match j', hj' with
          | 0, hj' => simp at hj'; subst hj'; exact World.cell?_alloc_at _ _ _ _ rfl
        case c2 => intro u hu; simp at hu; subst hu; rfl
        case c3 => unfold maxLen; omega
        case c4 => omega
        case c5 => have := HG3.out.size; simp; omega
        intro v4 w4 hown4 hg4 _
        obtain ⟨a4, p4, rfl⟩ := own_form hown4
        obtain ⟨K4, O4, G4⟩ := text_app2 hbw HK3.out HO3.out HG3.out hown4 hg4
        have HK4 := hide K4
        have HO4 := hide O4
        have HG4 := hide G4
        clear K4 O4 G4 hown4 hg4 HK3 HO3 HG3
        obtain ⟨c0, c1, f1⟩ := HK4.out
        go_wp2_with fail
        go_roundw
        case rel => exact ⟨k' + 1, out ++ [c], by omega, by omega, by simp; omega, HK4.out.set _, own_far HO4.out (fr_set _ _ _ _) (fun g hg => by have := (own_blk HO4.out hg).1; simp; omega), fr_both HG4.out (fr_set _ _ _ _), HT2⟩
        case measure => rw [placeOf_set HK4.out, HPL.out]; omega
      · have HGO : Hid (strGo (s.data.toList.drop (p + 1)) (p + 1) [] = .error (2, x)) := by show _ = _; rw [HT.out]; exact hgo out
        clear hgo h34 hd hst
        unfold errV
        go_wp2
        go_ret2
        refine ⟨?_, HG3.out⟩
        rw [HGO.out]; rfl
end Go.Proofs.YtoelacloghkooaaDoor
