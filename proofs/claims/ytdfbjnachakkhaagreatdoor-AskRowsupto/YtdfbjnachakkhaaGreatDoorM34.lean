import Derived.Test.YtdfbjnachakkhaaGreatDoorM33
import Derived.Deep.RegionHeld3
namespace Go.Proofs.YtdfbjnachakkhaaGreatDoor
open Go.ChangeShapes Go.WideShapes Go.ChangeAt Go.RowKit
set_option linter.unusedVariables false
/-- what a STRING is read as -/
def Quoted (L T M : Addr) (b : Nat) (s : ByteArray) (p : Nat) (r : Except PErr (List UInt8 × Nat)) (en : Ending) (w' : World) : Prop := match r with
  | .error (_, x) => en = .returned (.tuple #[.string { data := #[] }, errV L T M 2 x])
  | .ok (out, q) => if 200 < out.length then en = .returned (.tuple #[.string { data := #[] }, errV L T M 1 p]) else en = .returned (.tuple #[.string (str out), .nilIface]) ∧ Rd w' b s (skipTo s.data.toList q : Nat)
theorem Rd.far {w w' : World} {b : Nat} {s : ByteArray} {i : Int} (h : Rd w b s i) (hb : w'.heap[b]? = w.heap[b]?) : Rd w' b s i :=
  ⟨(World.cell?_of_block hb).trans h.c0, (World.cell?_of_block hb).trans h.c1, (World.frozen?_of_block hb).trans h.f1⟩
theorem Rd.lt {w : World} {b : Nat} {s : ByteArray} {i : Int} (h : Rd w b s i) : b < w.heap.size := glob_lt h.c0
theorem text_app2 {w wr w4 : World} {b : Nat} {s : ByteArray} {k : Int} {o v4 : Value} {out : List UInt8} {ob : Obj} {c : UInt8} (hbw : b < w.heap.size) (HK : Rd wr b s k) (HO : wr.ownsRow w.heap.size 5 1 o out.length (bs out)) (HG : w.grownBy wr (some b))
    (hown : w4.ownsRow w.heap.size 5 1 v4 (out.length + 1) (bs out ++ [.int .u8 (c.toNat : Int)])) (hg : (wr.alloc ob).grownBy w4 o.ownBlock) :
    Rd w4 b s k ∧ w4.ownsRow w.heap.size 5 1 v4 (out ++ [c]).length (bs (out ++ [c])) ∧ w.grownBy w4 (some b) := by
  have hba : (wr.alloc ob).heap[b]? = wr.heap[b]? := Below.heap_alloc _ _ _ HK.lt
  have hne : some b ≠ o.ownBlock := by
    intro e
    have := (own_blk HO e.symm).1
    omega
  refine ⟨HK.far ((hg.block b (by have := HK.lt; simp; omega) hne).trans hba), ?_, fr_own (fr_both HG (fr_alloc wr ob _)) (HO.alloc ob) (Nat.le_refl _) hg⟩
  rw [bs_snoc] at hown
  rw [List.length_append]; exact hown
set_option maxRecDepth 100000 in
set_option maxHeartbeats 4000000 in
theorem pquoted_any (b : Nat) (s : ByteArray) (p : Nat) (L T M : Addr) (w : World) (h : Rd w b s p) (hE : Errs w L T M) (hb : gTop ≤ b) (hp : p < s.size) (hs : s.size ≤ 1073741824) :
    Calls Tryz.prog 197 #[.pointer (some ⟨b, 0, none⟩)] w fun en w' => Quoted L T M b s p (strGo (s.data.toList.drop (p + 1)) (p + 1) []) en w' ∧ w.grownBy w' (some b) := by
  obtain ⟨i0, hi0, hz0, hz1, hz2⟩ := info_parts info5
  have HR := hide h
  have HE := hide hE
  have hbw := h.lt
  obtain ⟨c0, c1, f1⟩ := h
  clear hE
  go_enter Tryz.func197, Tryz.ntmps197
  go_wp2_with fail
  go_loopw [5, 6, 7] (fun o c e wr => ∃ (k : Nat) (out : List UInt8), k ≤ s.size ∧ p < k ∧ out.length ≤ k ∧ Hid (Rd wr b s (k : Nat)) ∧ Hid (wr.ownsRow w.heap.size 5 1 o out.length (bs out)) ∧ Hid (w.grownBy wr (some b)) ∧ Hid (strGo (s.data.toList.drop (p + 1)) (p + 1) [] = strGo (s.data.toList.drop k) k out)) (fun _ _ _ wr => s.size - placeOf wr b)
  case atStart => exact ⟨p + 1, [], by omega, by omega, by simp, HR.out.set _, World.ownsRow_nil _ _ _ _, fr_set _ _ _ _, (rfl : _ = _)⟩
  case round =>
    obtain ⟨k, out, hk, hpk, hol, HK, HO, HG, HT⟩ := hrel
    obtain ⟨va, vc, rfl⟩ := own_form HO.out
    clear c0 c1 f1
    have HPL : Hid (placeOf wr b = k) := placeOf_rd HK.out
    have HEr : Hid (Errs wr L T M) := HE.out.grown HG.out hb
    go_wp2_with fail
    refine (pleft_any b s k _ HK.out).mono ?_
    rintro e w1 ⟨rfl, n, rfl⟩
    have HK1 : Hid (Rd (wr.drewN n) b s k) := HK.out.drewN _
    have HE1 : Hid (Errs (wr.drewN n) L T M) := HEr.out.drewN _
    have HG1 : Hid (w.grownBy (wr.drewN n) (some b)) := fr_both HG.out (fr_draws _ _ _)
    have HO1 : Hid ((wr.drewN n).ownsRow w.heap.size 5 1 (.slice va out.length vc) out.length (bs out)) := own_far HO.out (fr_draws _ _ none) (fun _ _ => by simp)
    generalize wr.drewN n = w1 at *
    clear HK HEr HG HO
    have hend : (k = s.size ∨ ∃ h : k < s.size, s[k].toNat = 34) ∨ ∃ h : k < s.size, s[k].toNat ≠ 34 := by
      by_cases hl : k < s.size
      · by_cases h34 : s[k].toNat = 34
        · exact Or.inl (Or.inr ⟨hl, h34⟩)
        · exact Or.inr ⟨hl, h34⟩
      · exact Or.inl (Or.inl (by omega))
    rcases hend with hend | ⟨hl, h34⟩
    · have HWANT : Hid ((∃ h : k < s.size, s[k].toNat = 34 ∧ signF s.data.toList [34] k = some (skipTo s.data.toList (k + 1)) ∧ strGo (s.data.toList.drop (p + 1)) (p + 1) [] = .ok (out, k + 1)) ∨ (signF s.data.toList [34] k = none ∧ strGo (s.data.toList.drop (p + 1)) (p + 1) [] = .error (2, k))) := by
        show _ ∨ _
        rcases hend with he | ⟨hl, h34⟩
        · right
          refine ⟨by unfold signF; rw [starts_past s k (by omega)]; rfl, ?_⟩
          rw [HT.out]; exact strGo_end s k (by omega) out
        · left
          refine ⟨hl, h34, by unfold signF; rw [starts_get s k hl]; simp [h34], ?_⟩
          rw [HT.out]; exact strGo_quot s k hl h34 out
      have hcnd : (decide (k = s.size) = true) ∨ (decide (k = s.size) = false ∧ starts s.data.toList k [34] = true) := by
        rcases hend with he | ⟨hl, h34⟩
        · exact Or.inl (by simp [he])
        · exact Or.inr ⟨by simp; omega, by rw [starts_get s k hl]; simp [h34]⟩
      clear hend
      rcases hcnd with hd | ⟨hd, hst⟩
      · rw [hd]
        go_wp2_with fail
        refine (pwant_any b s (str [34]) k L T M _ HK1.out HE1.out hb hk hs).mono ?_
        rintro e w3 ⟨he, HFR⟩
        rw [data_str] at he
        have HG3 : Hid (w.grownBy w3 (some b)) := fr_both HG1.out HFR.g
        have HE3 : Hid (Errs w3 L T M) := HE1.out.grown HFR.g hb
        have HO3 : Hid (w3.ownsRow w.heap.size 5 1 (.slice va out.length vc) out.length (bs out)) := own_far HO1.out HFR.g (fun g hg => by have := (own_blk HO1.out hg).1; simp; omega)
        clear HFR
        rcases HWANT.out with ⟨hl, h34, hsf, hgo⟩ | ⟨hsf, hgo⟩
        · rw [hsf] at he
          obtain ⟨rfl, hrd⟩ := he
          have HRD := hide hrd
          have HGO := hide hgo
          clear hrd hgo hsf h34 HWANT
          have g0 := HE3.out.gl
          by_cases h2 : 200 < out.length
          · go_wp2_with fail
            go_quiet (fail)
            go_wp2
            go_ret2
            refine ⟨?_, fr_both HG3.out (fr_draws _ _ _)⟩
            rw [HGO.out]
            show if _ then _ else _
            rw [if_pos h2]; rfl
          · have h2' : out.length ≤ 200 := by omega
            have hcv : Sem.run Tryz.prog (convert 40 9 (.slice va out.length vc)) w3 = .ok (.string (str out)) w3 := own_string HO3.out
            go_wp2
            go_ret2
            refine ⟨?_, HG3.out⟩
            rw [HGO.out]
            show if _ then _ else _
            rw [if_neg h2]; exact ⟨rfl, HRD.out⟩
        · rw [hsf] at he
          have he' : e = .returned (errV L T M 2 k) := he
          subst he'
          have HGO := hide hgo
          clear he hgo hsf HWANT
          unfold errV
          go_wp2
          go_ret2
          refine ⟨?_, HG3.out⟩
          rw [HGO.out]; rfl
      · rw [hd]
        go_wp2_with fail
        refine (pbegins_any b s (str [34]) k _ HK1.out hk hs).mono ?_
        rintro e w2 ⟨rfl, n2, rfl⟩
        rw [data_str, hst]
        have HK2 : Hid (Rd (w1.drewN n2) b s k) := HK1.out.drewN _
        have HE2 : Hid (Errs (w1.drewN n2) L T M) := HE1.out.drewN _
        have HG2 : Hid (w.grownBy (w1.drewN n2) (some b)) := fr_both HG1.out (fr_draws _ _ _)
        have HO2 : Hid ((w1.drewN n2).ownsRow w.heap.size 5 1 (.slice va out.length vc) out.length (bs out)) := own_far HO1.out (fr_draws _ _ none) (fun _ _ => by simp)
        clear HK1 HE1 HG1 HO1
        generalize w1.drewN n2 = w2 at *
        go_wp2_with fail
        refine (pwant_any b s (str [34]) k L T M _ HK2.out HE2.out hb hk hs).mono ?_
        rintro e w3 ⟨he, HFR⟩
        rw [data_str] at he
        have HG3 : Hid (w.grownBy w3 (some b)) := fr_both HG2.out HFR.g
        have HE3 : Hid (Errs w3 L T M) := HE2.out.grown HFR.g hb
        have HO3 : Hid (w3.ownsRow w.heap.size 5 1 (.slice va out.length vc) out.length (bs out)) := own_far HO2.out HFR.g (fun g hg => by have := (own_blk HO2.out hg).1; simp; omega)
        clear HFR
        rcases HWANT.out with ⟨hl, h34, hsf, hgo⟩ | ⟨hsf, hgo⟩
        · rw [hsf] at he
          obtain ⟨rfl, hrd⟩ := he
          have HRD := hide hrd
          have HGO := hide hgo
          clear hrd hgo hsf h34 HWANT
          have g0 := HE3.out.gl
          by_cases h2 : 200 < out.length
          · go_wp2_with fail
            go_quiet (fail)
            go_wp2
            go_ret2
            refine ⟨?_, fr_both HG3.out (fr_draws _ _ _)⟩
            rw [HGO.out]
            show if _ then _ else _
            rw [if_pos h2]; rfl
          · have h2' : out.length ≤ 200 := by omega
            have hcv : Sem.run Tryz.prog (convert 40 9 (.slice va out.length vc)) w3 = .ok (.string (str out)) w3 := own_string HO3.out
            go_wp2
            go_ret2
            refine ⟨?_, HG3.out⟩
            rw [HGO.out]
            show if _ then _ else _
            rw [if_neg h2]; exact ⟨rfl, HRD.out⟩
        · rw [hsf] at he
          have he' : e = .returned (errV L T M 2 k) := he
          subst he'
          have HGO := hide hgo
          clear he hgo hsf HWANT
          unfold errV
          go_wp2
          go_ret2
          refine ⟨?_, HG3.out⟩
          rw [HGO.out]; rfl
    · have hd : decide (k = s.size) = false := by simp; omega
      have hst : starts s.data.toList k [34] = false := by rw [starts_get s k hl]; simp [h34]
      rw [hd]
      go_wp2_with fail
      refine (pbegins_any b s (str [34]) k _ HK1.out hk hs).mono ?_
      rintro e w2 ⟨rfl, n2, rfl⟩
      rw [data_str, hst]
      have HK2 : Hid (Rd (w1.drewN n2) b s k) := HK1.out.drewN _
      have HE2 : Hid (Errs (w1.drewN n2) L T M) := HE1.out.drewN _
      have HG2 : Hid (w.grownBy (w1.drewN n2) (some b)) := fr_both HG1.out (fr_draws _ _ _)
      have HO2 : Hid ((w1.drewN n2).ownsRow w.heap.size 5 1 (.slice va out.length vc) out.length (bs out)) := own_far HO1.out (fr_draws _ _ none) (fun _ _ => by simp)
      clear HK1 HE1 HG1 HO1
      generalize w1.drewN n2 = w2 at *
      go_wp2_with fail
      refine (pqbyte_any b s k L T M _ HK2.out HE2.out hb hl h34 hs).mono ?_
      rintro e w3 ⟨hq, HFR⟩
      have HG3 : Hid (w.grownBy w3 (some b)) := fr_both HG2.out HFR.g
      have HO3 : Hid (w3.ownsRow w.heap.size 5 1 (.slice va out.length vc) out.length (bs out)) := own_far HO2.out HFR.g (fun g hg => by have := (own_blk HO2.out hg).1; simp; omega)
      clear HFR HG2 HO2 HK2 HE2
      rcases hq with ⟨c, k', hk1, hk2, hk3, rfl, hrd, hgo⟩ | ⟨x, rfl, hgo⟩
      · have HK3 := hide hrd
        have HT2 : Hid (strGo (s.data.toList.drop (p + 1)) (p + 1) [] = strGo (s.data.toList.drop (k' + 1)) (k' + 1) (out ++ [c])) := by show _ = _; rw [HT.out]; exact hgo out
        clear hrd hgo h34 hd hst
        have hcc := byte_le c
        go_wp2_with (at_builtin; refine wpList_append_own _ rfl _ _ 40 rfl w.heap.size 5 i0 (.int .u8 0) 1 1 Tryz.underlying40 hi0 hz0 hz1 hz2 rfl (by decide) _ _ _ rfl (HO3.out.alloc _) ⟨w3.heap.size, 0, none⟩ 1 1 [.int .u8 (c.toNat : Int)] rfl rfl ?c1 ?c2 ?c3 ?c4 ?c5 ?_)
        case c1 =>
          intro j' u hj'
          match j', hj' with
          | 0, hj' => simp at hj'; subst hj'; exact World.cell?_alloc_at _ _ _ _ rfl
        case c2 => intro u hu; simp at hu; subst hu; rfl
        case c3 => unfold maxLen; omega
        case c4 => omega
        case c5 => have := HG3.out.size; simp; omega
        intro v4 w4 hown4 hg4 _
        obtain ⟨a4, p4, rfl⟩ := own_form hown4
        obtain ⟨K4, O4, G4⟩ := text_app2 hbw HK3.out HO3.out HG3.out hown4 hg4
        have HK4 := hide K4
        have HO4 := hide O4
        have HG4 := hide G4
        clear K4 O4 G4 hown4 hg4 HK3 HO3 HG3
        obtain ⟨c0, c1, f1⟩ := HK4.out
        go_wp2_with fail
        go_roundw
        case rel => exact ⟨k' + 1, out ++ [c], by omega, by omega, by simp; omega, HK4.out.set _, own_far HO4.out (fr_set _ _ _ _) (fun g hg => by have := (own_blk HO4.out hg).1; simp; omega), fr_both HG4.out (fr_set _ _ _ _), HT2⟩
        case measure => rw [placeOf_set HK4.out, HPL.out]; omega
      · have HGO : Hid (strGo (s.data.toList.drop (p + 1)) (p + 1) [] = .error (2, x)) := by show _ = _; rw [HT.out]; exact hgo out
        clear hgo h34 hd hst
        unfold errV
        go_wp2
        go_ret2
        refine ⟨?_, HG3.out⟩
        rw [HGO.out]; rfl
end Go.Proofs.YtdfbjnachakkhaaGreatDoor

namespace Go.Proofs.YtdfbjnachakkhaaGreatDoor
open Go.ChangeShapes Go.WideShapes Go.ChangeAt Go.RowKit
set_option linter.unusedVariables false
theorem compF_none (l : List UInt8) (p : Nat) (h : ∀ j, j < 3 → signF l (cmpS j) p = none) : compF l p = none := by
  have a0 : signF l [61] p = none := h 0 (by omega)
  have a1 : signF l [33, 61] p = none := h 1 (by omega)
  have a2 : signF l [60] p = none := h 2 (by omega)
  unfold compF; rw [a0, a1, a2]
theorem compF_some (l : List UInt8) (p k q : Nat) (hk : k < 3) (h : ∀ j, j < k → signF l (cmpS j) p = none) (hq : signF l (cmpS k) p = some q) : compF l p = some (2 + k, q) := by
  unfold compF
  match k, hk with
  | 0, _ => have h1 : signF l [61] p = some q := hq; rw [h1]
  | 1, _ =>
    have h1 : signF l [33, 61] p = some q := hq
    have a0 : signF l [61] p = none := h 0 (by omega)
    rw [a0, h1]
  | 2, _ =>
    have h1 : signF l [60] p = some q := hq
    have a0 : signF l [61] p = none := h 0 (by omega)
    have a1 : signF l [33, 61] p = none := h 1 (by omega)
    rw [a0, a1, h1]
theorem signs_ne {b : Nat} (hb : gTop ≤ b) : 4 ≠ b := fun e => absurd hb (by rw [← e]; decide)
def SignP (L T M : Addr) (b : Nat) (s : ByteArray) (p : Nat) (r : Option (Nat × Nat)) (en : Ending) (w' : World) : Prop := match r with
  | none => en = .returned (.tuple #[.int .i64 0, errV L T M 2 p])
  | some (k, q) => en = .returned (.tuple #[.int .i64 (k : Nat), .nilIface]) ∧ Rd w' b s (q : Nat)
set_option maxRecDepth 100000 in
set_option maxHeartbeats 4000000 in
theorem psign_any (b : Nat) (s : ByteArray) (p : Nat) (L T M : Addr) (w : World) (h : Rd w b s p) (hE : Errs w L T M) (hb : gTop ≤ b) (hp : p ≤ s.size) (hs : s.size ≤ 1073741824) :
    Calls Tryz.prog 168 #[.pointer (some ⟨b, 0, none⟩)] w fun en w' => SignP L T M b s p (compF s.data.toList p) en w' ∧ RFr w w' b := by
  have HR := hide h
  have HE := hide hE
  clear h hE
  go_enter Tryz.func168, Tryz.ntmps168
  go_wp2_with fail
  go_loopw [4] (fun kv wr => ∃ k : Nat, k ≤ 3 ∧ kv = .int .i64 ((2 : Int) + (k : Nat)) ∧ Hid (Rd wr b s p) ∧ Hid (RFr w wr b) ∧ Hid (∀ j, j < k → signF s.data.toList (cmpS j) p = none)) (fun kv _ => 5 - (intOf kv).toNat)
  case atStart => exact ⟨0, by omega, rfl, HR, RFr.refl _ _, fun j hj => by omega⟩
  case round =>
    obtain ⟨k, hk3, rfl, HK, HF, HAL⟩ := hrel
    have HEr : Hid (Errs wr L T M) := HE.out.grown HF.out.g hb
    have g1 := HEr.out.gt
    have s2 := HEr.out.s2
    have s3 := HEr.out.s3
    have s4 := HEr.out.s4
    have hsg : (k = 3) ∨ ∃ sg, (k = 0 ∧ sg = str [61] ∨ k = 1 ∧ sg = str [33, 61] ∨ k = 2 ∧ sg = str [60]) := by
      rcases (by omega : k = 3 ∨ k = 0 ∨ k = 1 ∨ k = 2) with h | h | h | h
      · exact Or.inl h
      · exact Or.inr ⟨_, Or.inl ⟨h, rfl⟩⟩
      · exact Or.inr ⟨_, Or.inr (Or.inl ⟨h, rfl⟩)⟩
      · exact Or.inr ⟨_, Or.inr (Or.inr ⟨h, rfl⟩)⟩
    rcases hsg with rfl | ⟨sg, hsg⟩
    · have HC := hide (compF_none _ _ HAL.out)
      have HFL : Hid (∀ wx : World, (∃ n, wx = wr.drewN n) → Calls Tryz.prog 44 #[.pointer (some ⟨b, 0, none⟩), .iface 338 (.pointer (some T))] wx fun e w' => e = .returned (.iface 115 (.agg #[.iface 338 (.pointer (some T)), .int .i64 (p : Nat)])) ∧ Hid (RFr w w' b) ∧ w'.cell? ⟨1, 0, none⟩ = some (.iface 338 (.pointer (some T)))) := by
        rintro wx ⟨n, rfl⟩
        refine (pfail_any b s p T _ (HK.out.drewN n)).mono ?_
        rintro e w2 ⟨rfl, rfl⟩
        exact ⟨rfl, HF.out.trans (RFr.draws _ _ _), g1⟩
      clear s2 s3 s4
      go_wp2_with fail
      go_region_held3 (fun w' => w'.cell? ⟨1, 0, none⟩ = some (.iface 338 (.pointer (some T)))) (go_keep) (first | (go_at_call 44; refine (HFL.out _ ⟨_, rfl⟩).mono ?_; rintro e w9 ⟨rfl, HF9, k9⟩))
      all_goals go_wp2
      all_goals go_ret2
      all_goals rw [HC.out]
      all_goals exact ⟨rfl, HF9.out⟩
    · have HSG : Hid (sg.data.toList = cmpS k) := by
        rcases hsg with ⟨rfl, rfl⟩ | ⟨rfl, rfl⟩ | ⟨rfl, rfl⟩ <;> exact (data_str _)
      have hcl : wr.cell? ⟨4, 2 + k, none⟩ = some (.string sg) := by
        rcases hsg with ⟨rfl, rfl⟩ | ⟨rfl, rfl⟩ | ⟨rfl, rfl⟩
        · exact s2
        · exact s3
        · exact s4
      have hkl : k < 3 := by rcases hsg with ⟨rfl, rfl⟩ | ⟨rfl, rfl⟩ | ⟨rfl, rfl⟩ <;> omega
      obtain ⟨m, HM⟩ : ∃ m, Hid (m = 2 + k) := ⟨_, (rfl : _ = _)⟩
      have hm5 : m < 5 := by have := HM.out; omega
      have hm2 : m ≤ 2 + k := by have := HM.out; omega
      have hm3 : 2 + k ≤ m := by have := HM.out; omega
      rw [← HM.out] at hcl
      have HMI : Hid (((2 : Int) + (k : Nat)) = (m : Nat)) := by have := HM.out; show _ = _; omega
      rw [HMI.out]
      clear hsg s2 s3 s4 g1
      have HFL : Hid (∀ wx : World, (∃ n, wx = wr.drewN n) → Calls Tryz.prog 83 #[.pointer (some ⟨b, 0, none⟩), .string sg] wx fun e w' => e = .returned (.bool (signF s.data.toList (cmpS k) p).isSome) ∧ Hid (Rd w' b s ((signF s.data.toList (cmpS k) p).getD p : Nat)) ∧ Hid (RFr w w' b) ∧ w'.cell? ⟨4, m, none⟩ = some (.string sg)) := by
        rintro wx ⟨n, rfl⟩
        refine (ptake_any b s sg p _ (HK.out.drewN n) hp hs).mono ?_
        rintro e w2 ⟨rfl, hr, hf⟩
        rw [HSG.out] at hr ⊢
        refine ⟨rfl, hr, (HF.out.trans (RFr.draws _ _ _)).trans hf, ?_⟩
        rw [World.cell?_of_block (a := ⟨4, m, none⟩) (hf.block 4 (signs_ne hb))]
        exact hcl
      obtain ⟨S, HSS⟩ : ∃ S, Hid (signF s.data.toList (cmpS k) p = S) := ⟨_, (rfl : _ = _)⟩
      rw [HSS.out] at HFL
      go_wp2_with fail
      go_region_held3 (fun w' => w'.cell? ⟨4, m, none⟩ = some (.string sg)) (go_keep) (first | (go_at_call 83; refine (HFL.out _ ⟨_, rfl⟩).mono ?_; rintro e w9 ⟨rfl, HR9, HF9, k9⟩))
      all_goals
        cases S with
        | none =>
          go_wp2_with fail
          go_roundw
          case rel => exact ⟨k + 1, by omega, by have := HM.out; subst this; go_num, HR9, HF9, fun j hj => by
            by_cases e : j = k
            · subst e; exact HSS.out
            · exact HAL.out j (by omega)⟩
          case measure => simp [intOf]; omega
        | some q =>
          have HC : Hid (compF s.data.toList p = some (m, q)) := by show _ = _; rw [HM.out]; exact compF_some _ p k q hkl HAL.out HSS.out
          go_wp2
          go_ret2
          rw [HC.out]
          exact ⟨⟨rfl, HR9.out⟩, HF9.out⟩
/-- what a term is read as -/
def TermP (L T M : Addr) (b : Nat) (s : ByteArray) (r : Except PErr (PTerm × Nat)) (en : Ending) (w' : World) : Prop := match r with
  | .error (e, x) => ∃ t : PTerm, en = .returned (.tuple #[.agg (termV t).toArray, errV L T M e x])
  | .ok (t, q) => en = .returned (.tuple #[.agg (termV t).toArray, .nilIface]) ∧ Rd w' b s (q : Nat)
set_option maxRecDepth 100000 in
set_option maxHeartbeats 4000000 in
theorem pterm_any (b : Nat) (s : ByteArray) (p : Nat) (L T M : Addr) (w : World) (h : Rd w b s p) (hE : Errs w L T M) (hb : gTop ≤ b) (hp : p ≤ s.size) (hs : s.size ≤ 1073741824) :
    Calls Tryz.prog 167 #[.pointer (some ⟨b, 0, none⟩)] w fun en w' => TermP L T M b s (termF s.data.toList p) en w' ∧ w.grownBy w' (some b) := by
  have hbw := h.lt
  have HR := hide h
  have HE := hide hE
  have hbX : ¬ b = w.heap.size := by omega
  clear h hE
  go_enter Tryz.func167, Tryz.ntmps167
  go_wp2_with fail
  generalize hw0 : World.alloc _ _ = w0
  have HX0 : Hid (Box w0 w.heap.size [.bool false, .string { data := #[] }, .int .i64 0]) := by rw [← hw0]; exact Box.new _ _ _
  have HR0 : Hid (Rd w0 b s p) := by rw [← hw0]; exact HR.out.far (Below.heap_alloc _ _ _ hbw)
  have HE0 : Hid (Errs w0 L T M) := by rw [← hw0]; exact HE.out.grown (fr_alloc _ _ (some b)) hb
  have HG0 : Hid (w.grownBy w0 (some b)) := by rw [← hw0]; exact fr_alloc _ _ _
  clear hw0 HR HE
  refine (patTerm_any b s p _ HR0.out hp hs).mono ?_
  rintro e w1 ⟨rfl, n, rfl⟩
  have HX1 : Hid (Box (w0.drewN n) w.heap.size [.bool false, .string { data := #[] }, .int .i64 0]) := HX0.out.grown (by simp) (fr_draws _ _ none) (by simp)
  have HR1 : Hid (Rd (w0.drewN n) b s p) := HR0.out.drewN _
  have HE1 : Hid (Errs (w0.drewN n) L T M) := HE0.out.drewN _
  have HG1 : Hid (w.grownBy (w0.drewN n) (some b)) := fr_both HG0.out (fr_draws _ _ _)
  generalize w0.drewN n = w1 at *
  clear HX0 HR0 HE0 HG0
  have x0 := HX1.out.c 0 _ rfl
  have x1 := HX1.out.c 1 _ rfl
  have x2 := HX1.out.c 2 _ rfl
  have y0 := HX1.out.f 0 _ rfl
  have y1 := HX1.out.f 1 _ rfl
  have y2 := HX1.out.f 2 _ rfl
  obtain ⟨c0, c1, f1⟩ := HR1.out
  have g1 := HE1.out.gt
  obtain ⟨B, HB⟩ : ∃ B, Hid (atTermB s.data.toList p = B) := ⟨_, (rfl : _ = _)⟩
  rw [HB.out]
  cases B with
  | false =>
    have HT : Hid (termF s.data.toList p = .error (2, p)) := termF_not _ _ HB.out
    have HFL : Hid (∀ wx : World, Rd wx b s p → Calls Tryz.prog 44 #[.pointer (some ⟨b, 0, none⟩), .iface 338 (.pointer (some T))] wx fun e w' => e = .returned (.iface 115 (.agg #[.iface 338 (.pointer (some T)), .int .i64 (p : Nat)])) ∧ wx = w') := fun wx h => pfail_any b s p T wx h
    have HRD : Hid (∀ n, Rd (w1.drewN n) b s p) := fun n => HR1.out.drewN n
    go_wp2_with fail
    go_region_law (first | (go_simp; go_at_call 44; refine (HFL.out _ (HRD.out 0)).mono ?_; rintro e w3 ⟨rfl, rfl⟩) | (go_simp; go_at_call 44; refine (HFL.out _ (HRD.out 1)).mono ?_; rintro e w3 ⟨rfl, rfl⟩))
    all_goals
      go_simp
      go_wp2
      refine bodyPost_ret (v := .tuple #[.agg #[.bool false, .string { data := #[] }, .int .i64 0], .iface 115 (.agg #[.iface 338 (.pointer (some T)), .int .i64 (p : Nat)])]) (by simp [results, Tryz.results167, go_sem, x0, x1, x2]) rfl ⟨?_, ?_⟩
      · rw [HT.out]; exact ⟨noTerm, rfl⟩
      · exact fr_new (fr_new (fr_new (fr_both HG1.out (fr_draws _ _ _)) (Nat.le_refl _) _ _) (Nat.le_refl _) _ _) (Nat.le_refl _) _ _
  | true =>
    go_wp2_with fail
    refine (pbegins_any b s (str [34]) p _ HR1.out hp hs).mono ?_
    rintro e w2 ⟨rfl, n2, rfl⟩
    rw [data_str]
    have HX2 : Hid (Box (w1.drewN n2) w.heap.size [.bool false, .string { data := #[] }, .int .i64 0]) := HX1.out.grown (by simp) (fr_draws _ _ none) (by simp)
    have HR2 : Hid (Rd (w1.drewN n2) b s p) := HR1.out.drewN _
    have HE2 : Hid (Errs (w1.drewN n2) L T M) := HE1.out.drewN _
    have HG2 : Hid (w.grownBy (w1.drewN n2) (some b)) := fr_both HG1.out (fr_draws _ _ _)
    generalize w1.drewN n2 = w2 at *
    clear HX1 HR1 HE1 HG1 x0 x1 x2 y0 y1 y2 c0 c1 f1 g1
    obtain ⟨Q, HQ⟩ : ∃ Q, Hid (starts s.data.toList p [34] = Q) := ⟨_, (rfl : _ = _)⟩
    rw [HQ.out]
    cases Q with
    | true =>
      have hlt : p < s.size := by
        have := HQ.out
        rw [starts_one] at this
        exact (of_decide_eq_true this).1
      have HTF : Hid (termF s.data.toList p = match strGo (s.data.toList.drop (p + 1)) (p + 1) [] with
          | .error e => .error e
          | .ok (o, q) => if 200 < o.length then .error (1, p) else .ok (⟨false, o, p⟩, skipTo s.data.toList q)) := by
        show _ = _; unfold termF; rw [if_pos HQ.out]; rfl
      go_wp2_with fail
      refine (pquoted_any b s p L T M _ HR2.out HE2.out hb hlt hs).mono ?_
      rintro e w3 ⟨hq, HFR⟩
      have HX3 : Hid (Box w3 w.heap.size [.bool false, .string { data := #[] }, .int .i64 0]) := HX2.out.grown (by simp) HFR (by simp; omega)
      have HG3 : Hid (w.grownBy w3 (some b)) := fr_both HG2.out HFR
      clear HFR HX2 HG2 HR2 HE2
      have x0 := HX3.out.c 0 _ rfl
      have x1 := HX3.out.c 1 _ rfl
      have x2 := HX3.out.c 2 _ rfl
      have y0 := HX3.out.f 0 _ rfl
      have y1 := HX3.out.f 1 _ rfl
      have y2 := HX3.out.f 2 _ rfl
      obtain ⟨G, HGG⟩ : ∃ G, Hid (strGo (s.data.toList.drop (p + 1)) (p + 1) [] = G) := ⟨_, (rfl : _ = _)⟩
      rw [HGG.out] at hq HTF
      have hqc : (∃ er x, Hid (termF s.data.toList p = .error (er, x)) ∧ e = .returned (.tuple #[.string { data := #[] }, errV L T M er x])) ∨ (∃ o q, Hid (termF s.data.toList p = .ok (⟨false, o, p⟩, q)) ∧ e = .returned (.tuple #[.string (str o), .nilIface]) ∧ Hid (Rd w3 b s (q : Nat))) := by
        cases hG : G with
        | error er =>
          obtain ⟨er, x⟩ := er
          have h2 := strGo_err _ _ _ _ _ _ (Nat.le_refl _) (HGG.out.trans hG)
          subst h2
          left
          rw [hG] at hq
          refine ⟨2, x, ?_, hq⟩
          show _ = _; rw [HTF.out, hG]
        | ok oq =>
          obtain ⟨o, q⟩ := oq
          rw [hG] at hq
          by_cases h2 : 200 < o.length
          · left
            refine ⟨1, p, ?_, ?_⟩
            · show _ = _; rw [HTF.out, hG]; simp only [if_pos h2]
            · have hq' : if 200 < o.length then e = _ else _ := hq
              rw [if_pos h2] at hq'; exact hq'
          · right
            have hq' : if 200 < o.length then e = _ else _ := hq
            rw [if_neg h2] at hq'
            refine ⟨o, skipTo s.data.toList q, ?_, hq'.1, hq'.2⟩
            show _ = _; rw [HTF.out, hG]; simp only [if_neg h2]
      clear hq
      rcases hqc with ⟨er, x, HT, rfl⟩ | ⟨o, q, HT, rfl, HRD⟩
      · unfold errV
        go_wp2
        refine bodyPost_ret (v := .tuple #[.agg #[.bool false, .string { data := #[] }, .int .i64 (p : Nat)], .iface 115 (.agg #[.iface 338 (.pointer (some (errA L T M er))), .int .i64 (x : Nat)])]) (by simp [results, Tryz.results167, go_sem, x0, x1, x2]) rfl ⟨?_, ?_⟩
        · rw [HT.out]; exact ⟨⟨false, [], p⟩, rfl⟩
        · exact fr_new (fr_new (fr_new HG3.out (Nat.le_refl _) _ _) (Nat.le_refl _) _ _) (Nat.le_refl _) _ _
      · obtain ⟨so, HSO⟩ : ∃ so, Hid (str o = so) := ⟨_, (rfl : _ = _)⟩
        rw [HSO.out]
        go_wp2
        refine bodyPost_ret (v := .tuple #[.agg #[.bool false, .string so, .int .i64 (p : Nat)], .nilIface]) (by simp [results, Tryz.results167, go_sem, x0, x1, x2]) rfl ⟨?_, ?_⟩
        · rw [HT.out]
          refine ⟨by unfold termV; rw [HSO.out], ?_⟩
          exact HRD.out.far (by rw [Below.heap_setCell _ _ _ _ (by omega), Below.heap_setCell _ _ _ _ (by omega), Below.heap_setCell _ _ _ _ (by omega)])
        · exact fr_new (fr_new (fr_new HG3.out (Nat.le_refl _) _ _) (Nat.le_refl _) _ _) (Nat.le_refl _) _ _
    | false =>
      have HT : Hid (termF s.data.toList p = .ok (⟨isVarB (wordAt s.data.toList p), wordAt s.data.toList p, p⟩, skipTo s.data.toList (p + (wordAt s.data.toList p).length))) := by
        show _ = _; unfold termF; rw [HQ.out, HB.out]; rfl
      obtain ⟨W, HWW⟩ : ∃ W, Hid (str (wordAt s.data.toList p) = W) := ⟨_, (rfl : _ = _)⟩
      have HWS : Hid (W.size = (wordAt s.data.toList p).length) := by show _ = _; rw [← HWW.out, str_size]
      have hle : p + W.size ≤ s.size := by rw [HWS.out]; exact word_le s p hp
      have HVB : Hid (isVarB W.data.toList = isVarB (wordAt s.data.toList p)) := by show _ = _; rw [← HWW.out, data_str]
      go_wp2_with fail
      refine (pwordAt_any b s p _ HR2.out hp hs).mono ?_
      rintro e w3 ⟨rfl, n3, rfl⟩
      rw [HWW.out]
      go_wp2_with fail
      refine (pmove_any b s p W.size _ (HR2.out.drewN _) hle hs).mono ?_
      rintro e w4 ⟨rfl, hrd, HFR⟩
      have HX4 : Hid (Box w4 w.heap.size [.bool false, .string { data := #[] }, .int .i64 0]) := (HX2.out.grown (by simp) (fr_draws _ _ none) (by simp)).grown (by simp) HFR.g (by simp; omega)
      have HG4 : Hid (w.grownBy w4 (some b)) := fr_both (fr_both HG2.out (fr_draws _ _ _)) HFR.g
      have HR4 : Hid (Rd w4 b s (skipTo s.data.toList (p + (wordAt s.data.toList p).length) : Nat)) := by rw [← HWS.out]; exact hrd
      clear hrd HFR HX2 HG2 HR2 HE2
      go_wp2_with fail
      refine (isVar_any W _).mono ?_
      rintro e w5 ⟨rfl, rfl⟩
      rw [HVB.out]
      obtain ⟨V, HV⟩ : ∃ V, Hid (isVarB (wordAt s.data.toList p) = V) := ⟨_, (rfl : _ = _)⟩
      rw [HV.out]
      have x0 := HX4.out.c 0 _ rfl
      have x1 := HX4.out.c 1 _ rfl
      have x2 := HX4.out.c 2 _ rfl
      have y0 := HX4.out.f 0 _ rfl
      have y1 := HX4.out.f 1 _ rfl
      have y2 := HX4.out.f 2 _ rfl
      go_wp2
      refine bodyPost_ret (v := .tuple #[.agg #[.bool V, .string W, .int .i64 (p : Nat)], .nilIface]) (by simp [results, Tryz.results167, go_sem, x0, x1, x2]) rfl ⟨?_, ?_⟩
      · rw [HT.out]
        refine ⟨by unfold termV; rw [HV.out, HWW.out], ?_⟩
        exact HR4.out.far (by rw [Below.heap_setCell _ _ _ _ (by omega), Below.heap_setCell _ _ _ _ (by omega), Below.heap_setCell _ _ _ _ (by omega)])
      · exact fr_new (fr_new (fr_new HG4.out (Nat.le_refl _) _ _) (Nat.le_refl _) _ _) (Nat.le_refl _) _ _
end Go.Proofs.YtdfbjnachakkhaaGreatDoor
